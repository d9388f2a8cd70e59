/-
  The contract of the document's own shifting of a bit.
-/
import Derived.Test.YtmpaocpgoihliaaGreatDoorP00
import Derived.Test.YtmpaocpgoihliaaGreatDoorP01
import Derived.Test.YtmpaocpgoihliaaGreatDoorP04
import Derived.Test.YtmpaocpgoihliaaGreatDoorP07
import Derived.Test.YtmpaocpgoihliaaGreatDoorP08
import Derived.Test.YtmpaocpgoihliaaGreatDoorP09
import Derived.Test.YtmpaocpgoihliaaGreatDoorP11
import Derived.Test.YtmpaocpgoihliaaGreatDoorProg
import Derived.WalkKit
import Derived.WalkSpells
import Derived.BigQuiet
import Derived.Lib.Hide
import Derived.Laws.BitsAllLaws
import Derived.Deep.RegionHeld3
import Derived.Laws.IdiomStrings
import Derived.Laws.BytesString
import Derived.RangeFuncNested
import Derived.RangeFuncBound
import Derived.RangeFuncCalls
import Derived.RangeFuncLeaves
import Derived.Shelf.Abstract
import Derived.Shelf.RegionOpen
import Derived.OwnWalkIn
import Derived.TacticsInMore
import Derived.LoopNIn
import Derived.LoopIn
import Derived.RangeFuncBox
import Derived.Maps.AppendAt
import Derived.Deep.MidRow
import Derived.Deep.QuietTactic
namespace Go.Proofs.YtmpaocpgoihliaaGreatDoor
set_option maxRecDepth 100000
section
open Go Go.RowKit
theorem in_any (r b : Nat) (w : World) (hr : r < 4294967296) (hb : b < 2) :
 Calls Tryz.prog 243 #[.int .u32 r, .int .u32 b] w fun e w' => e = .returned (.int .u32 ((stp (r ^^^ b) : Nat) : Int)) ∧ w = w' := by
 by_cases h : r % 2 = b
 ·have HS := Lib.hid (in_no hb h)
  have ht : (((r : Int) % 2) != (b : Int)) = false := by simp; omega
  clear h
  go_enter Tryz.func243, Tryz.ntmps243
  go_wp2_with fail
  go_ret
  exact ⟨by rw [HS.out]; rfl, rfl⟩
 ·have HS := Lib.hid (in_yes hb h)
  have ht : (((r : Int) % 2) != (b : Int)) = true := by simp; omega
  have hx : bits .xor .u32 ((r : Int) / 2) 2197175160 = ((r / 2 ^^^ 2197175160 : Nat) : Int) := u32_xor_nat (r / 2) 2197175160 (by omega) (by omega)
  clear h
  go_enter Tryz.func243, Tryz.ntmps243
  go_wp2_with fail
  go_ret
  exact ⟨by rw [HS.out]; rfl, rfl⟩
end
section
open Go Go.RowKit
set_option maxHeartbeats 400000 in
theorem rext_any (A : Option Addr) (l : List Nat) (n c B s : Nat) (w : World) (hl : l.length = n) (hr : Rd w B A l) (hm : n ≤ maxLen) (hs : s < 4294967296) :
 Calls Tryz.prog 207 #[.int .u32 s, .slice A n c] w fun e w' => e = .returned (.int .u32 ((crcE s l : Nat) : Int)) ∧ w = w' := by
 unfold maxLen at hm
 have HL := Lib.hid hl
 clear hl
 go_enter Tryz.func207, Tryz.ntmps207
 go_wp2_with fail
 go_loop [5, 6] (fun vr vi => ∃ k t : Nat, k ≤ n ∧ vi = .int .i64 k ∧ vr = .int .u32 t ∧ t < 4294967296 ∧ Hid (t = feed (inv s) (l.take k))) (fun _ vi => n - (intOf vi).toNat)
 case atStart => exact ⟨0, inv s, Nat.zero_le _, rfl, by unfold inv; go_num, inv_lt s, Lib.hid rfl⟩
 case round =>
  obtain ⟨k, t, hk, rfl, rfl, ht, HT⟩ := hrel
  by_cases hlt : k < n
  ·obtain ⟨g, o, x, hA, _, hx, hx2, hcx⟩ := hr.at_ (k := k) (by rw [HL.out]; exact hlt)
   subst hA
   have HX : Hid (inb t x = feed (inv s) (l.take (k + 1))) := Lib.hid (by rw [feed_take hx, ← HT.out])
   have hin := inb_lt ht hx2
   clear hx HT
   go_wp2_with fail
   go_loop [5, 7, 8] (fun vr vx vj => ∃ j u y : Nat, j ≤ 8 ∧ vj = .int .i64 j ∧ vr = .int .u32 u ∧ vx = .int .u32 y ∧ u < 4294967296 ∧ y < 256 ∧ Hid (y = x / 2 ^ j) ∧ Hid (stps (8 - j) (u ^^^ y) = inb t x)) (fun _ _ vj => 8 - (intOf vj).toNat)
   case atStart => exact ⟨0, t, x, by omega, rfl, rfl, by go_num, ht, hx2, Lib.hid (by simp), Lib.hid rfl⟩
   case round =>
    obtain ⟨j, u, y, hj, rfl, rfl, rfl, hu, hy, HY, HU⟩ := hrel
    by_cases hj8 : j < 8
    ·have HU2 := Lib.hid (inb_step hj8 HU.out)
     have HY2 : Hid (y / 2 = x / 2 ^ (j + 1)) := Lib.hid (by rw [HY.out, Nat.div_div_eq_div_mul, Nat.pow_succ])
     have hy2 : y % 2 < 2 := Nat.mod_lt _ (by omega)
     have hu2 : stp (u ^^^ (y % 2)) < 4294967296 := stp_lt (xor_lt32 hu (by omega))
     go_wp2_with fail
     refine (in_any u (y % 2) _ hu hy2).mono ?_
     rintro e w' ⟨rfl, rfl⟩
     go_wp2_with fail
     go_round
     case rel => exact ⟨j + 1, _, y / 2, by omega, by go_num, rfl, by go_num, hu2, by omega, HY2, HU2⟩
     case measure => simp [intOf]; omega
    ·have HF : Hid (u = inb t x) := by
      obtain rfl : j = 8 := by omega
      have h1 := HU.out
      have h2 := HY.out
      obtain rfl : y = 0 := by omega
      rw [Nat.sub_self, Nat.xor_zero] at h1
      exact Lib.hid h1
     go_wp2_with fail
     go_round
     case rel => exact ⟨k + 1, u, by omega, by go_num, rfl, hu, Lib.hid (HF.out.trans HX.out)⟩
     case measure => simp [intOf]; omega
  ·have HF : Hid (inv t = crcE s l) := by
    have := HT.out
    rw [List.take_of_length_le (by have := HL.out; omega)] at this
    exact Lib.hid (by rw [this]; rfl)
   go_wp2_with fail
   go_ret
   exact ⟨by rw [← HF.out]; unfold inv; go_num, rfl⟩
theorem rsum_any (A : Option Addr) (l : List Nat) (n c B : Nat) (w : World) (hl : l.length = n) (hr : Rd w B A l) (hm : n ≤ maxLen) :
 Calls Tryz.prog 136 #[.slice A n c] w fun e w' => e = .returned (.int .u32 ((crcS l : Nat) : Int)) ∧ w = w' := by
 have HM := Lib.hid hm
 go_enter Tryz.func136, Tryz.ntmps136
 go_wp2_with fail
 refine (rext_any A l n c B 0 _ hl hr HM.out (by omega)).mono ?_
 rintro e w' ⟨rfl, rfl⟩
 go_wp2_with fail
 go_ret
 exact ⟨rfl, rfl⟩
end
section
open Go Go.RowKit
theorem rsum_by (A : Option Addr) (l : List Nat) (n c : Nat) (w : World) (hb : By w A n c l) :
 Calls Tryz.prog 136 #[.slice A n c] w fun e w' => e = .returned (.int .u32 ((crcS l : Nat) : Int)) ∧ w = w' :=
 rsum_any A l n c _ w hb.len hb.rd (by have := hb.cap; have := hb.most; unfold maxLen; omega)
def lenOf : Value → Nat
 | .slice _ n _ => n
 | _ => 0
theorem zeros_snoc (l : List Nat) (k : Nat) : l ++ List.replicate k 0 ++ [0] = l ++ List.replicate (k + 1) 0 := by
 rw [List.append_assoc, ← List.replicate_succ']
set_option maxHeartbeats 3200000 in
theorem rseal_arg (a b c d e s : Int) (A : Option Addr) (n cp : Nat) (w : World) (h : roomN s = 0 ∨ mayB a b c d e = false) :
 Calls Tryz.prog 56 #[.agg #[.int .i64 a, .int .i64 b, .int .i64 c, .int .i64 d, .int .i64 e], .slice A n cp, .int .i64 s] w fun r w' => r = .returned (.tuple #[.slice none 0 0, .int .i64 2]) ∧ Ext w w' := by
 have hE := (Ext.refl w).alloc (.cells #[.int .i64 a, .int .i64 b, .int .i64 c, .int .i64 d, .int .i64 e] 44)
 have hT := heap_alloc_new w (.cells #[.int .i64 a, .int .i64 b, .int .i64 c, .int .i64 d, .int .i64 e] 44)
 have HE := Lib.hid hE
 obtain ⟨⟨i0, i1, i2, i3, i4⟩, _⟩ := five_cells hT
 clear hE hT
 by_cases hm : mayB a b c d e = false
 ·clear h
  go_enter Tryz.func56, Tryz.ntmps56
  go_wp2_with fail
  refine (rprint_any _ _ _ _ _ _).mono ?_
  rw [pl_no hm, pr_no hm]
  rintro r w1 ⟨A1, c1, rfl, _, hx⟩
  have HE := Lib.hid (HE.out.trans hx)
  clear hx i0 i1 i2 i3 i4
  go_wp2_with fail
  go_ret2
  exact ⟨rfl, HE.out⟩
 ·have h0 : roomN s = 0 := by rcases h with h | h; exact h; exact absurd h hm
  have hm' : mayB a b c d e = true := by simpa using hm
  clear h hm
  go_enter Tryz.func56, Tryz.ntmps56
  go_wp2_with fail
  refine (rprint_any _ _ _ _ _ _).mono ?_
  rw [pr_yes hm']
  rintro r w1 ⟨A1, c1, rfl, _, hx⟩
  have HE := Lib.hid (HE.out.trans hx)
  clear hx i0 i1 i2 i3 i4 hm'
  go_wp2_with fail
  refine (rroom_any _ _).mono ?_
  rw [h0]
  rintro r w2 ⟨rfl, rfl⟩
  go_wp2_with fail
  go_ret2
  exact ⟨rfl, HE.out⟩
set_option maxHeartbeats 3200000 in
theorem rseal_long (a b c d e s : Int) (A : Option Addr) (n cp : Nat) (w : World) (h0 : roomN s ≠ 0) (hm : mayB a b c d e = true) (hn : roomN s < n) :
 Calls Tryz.prog 56 #[.agg #[.int .i64 a, .int .i64 b, .int .i64 c, .int .i64 d, .int .i64 e], .slice A n cp, .int .i64 s] w fun r w' => r = .returned (.tuple #[.slice none 0 0, .int .i64 3]) ∧ Ext w w' := by
 have hE := (Ext.refl w).alloc (.cells #[.int .i64 a, .int .i64 b, .int .i64 c, .int .i64 d, .int .i64 e] 44)
 have hT := heap_alloc_new w (.cells #[.int .i64 a, .int .i64 b, .int .i64 c, .int .i64 d, .int .i64 e] 44)
 have HE := Lib.hid hE
 obtain ⟨⟨i0, i1, i2, i3, i4⟩, _⟩ := five_cells hT
 have g0 : (((roomN s : Nat) : Int) == 0) = false := by simpa using h0
 have HR : Hid (∀ w, Calls Tryz.prog 135 #[.int .i64 s] w fun e w' => e = .returned (.int .i64 (roomN s)) ∧ w = w') := Lib.hid (rroom_any s)
 clear hE hT h0
 go_enter Tryz.func56, Tryz.ntmps56
 go_wp2_with fail
 refine (rprint_any _ _ _ _ _ _).mono ?_
 rw [pr_yes hm]
 rintro r w1 ⟨A1, c1, rfl, _, hx⟩
 have HE := Lib.hid (HE.out.trans hx)
 clear hx i0 i1 i2 i3 i4 hm
 generalize roomN s = R at *
 go_wp2_with fail
 refine (HR.out _).mono ?_
 rintro r w2 ⟨rfl, rfl⟩
 go_wp2_with fail
 refine (HR.out _).mono ?_
 rintro r w2 ⟨rfl, rfl⟩
 go_wp2_with fail
 go_ret2
 exact ⟨rfl, HE.out⟩
theorem own_lower {w : World} {b b' n : Nat} {e : TypeId} {s : Nat} {v : Value} {xs : List Value} (h : w.ownsRow b e s v n xs) (hb : b' ≤ b) : w.ownsRow b' e s v n xs := by
 refine ⟨h.1, ?_⟩
 rcases h.2 with h0 | ⟨g, cap, cur, hv, hbg, h1⟩
 ·exact .inl h0
 ·exact .inr ⟨g, cap, cur, hv, Nat.le_trans hb hbg, h1⟩
set_option maxHeartbeats 6400000 in
theorem rseal_yes_own (a b c d e : Int) (S : Nat) (A : Option Addr) (n cp : Nat) (body : List Nat) (w : World) (hb : By w A n cp body) (h0 : roomN (S : Int) ≠ 0) (hm : mayB a b c d e = true) (hn : n ≤ roomN (S : Int)) :
 Calls Tryz.prog 56 #[.agg #[.int .i64 a, .int .i64 b, .int .i64 c, .int .i64 d, .int .i64 e], .slice A n cp, .int .i64 S] w fun r w' => ∃ A' c', r = .returned (.tuple #[.slice A' (64 * S) c', .int .i64 0]) ∧ By w' A' (64 * S) c' (frameL body (pl a b c d e) S) ∧ Ext w w' ∧ w'.ownsRow w.heap.size 5 1 (.slice A' (64 * S) c') (64 * S) (vb (frameL body (pl a b c d e) S)) := by
 obtain ⟨i0, hi, hz0, hz1, hz2⟩ := info_parts byte_info
 have hE := (Ext.refl w).alloc (.cells #[.int .i64 a, .int .i64 b, .int .i64 c, .int .i64 d, .int .i64 e] 44)
 have hT := heap_alloc_new w (.cells #[.int .i64 a, .int .i64 b, .int .i64 c, .int .i64 d, .int .i64 e] 44)
 have HE := Lib.hid hE
 have HB := Lib.hid hb
 obtain ⟨⟨j0, j1, j2, j3, j4⟩, _⟩ := five_cells hT
 have g0 : (((roomN (S : Int) : Nat) : Int) == 0) = false := by simpa using h0
 have HR : Hid (∀ w, Calls Tryz.prog 135 #[.int .i64 S] w fun e w' => e = .returned (.int .i64 (roomN (S : Int))) ∧ w = w') := Lib.hid (rroom_any S)
 have hfit := room_fits hn (by omega)
 have h15 : (pl a b c d e).length = 15 := by rw [pl_yes hm, tagBytes_len]
 have hN : body.length = n := Bs.len hb
 obtain ⟨m, hm4⟩ : ∃ m : Nat, m = 64 * S - 21 - n := ⟨_, rfl⟩
 have HH : Hid (digs 2 n ++ pl a b c d e ++ body ++ List.replicate m 0 = frameH body (pl a b c d e) S) := Lib.hid (by rw [← hN]; exact frame_split body _ S m (by rw [hN]; exact hm4))
 have hm5 : 17 + n + m ≤ 64 * S - 4 := by omega
 have hm6 : 64 * S - 4 ≤ 17 + n + m := by omega
 have HM5 : Hid (2 + 15 + n + m = 64 * S - 4 ∧ 64 * S - 4 + 4 = 64 * S) := Lib.hid (by omega)
 have hroomle := roomN_le (S : Int)
 have HHlt : Hid (∀ x ∈ frameH body (pl a b c d e) S, x < 256) := Lib.hid (frameH_lt (Bs.rd hb).lt (by rw [pl_yes hm]; exact tagBytes_lt _ _ _ _ _))
 have hplt : ∀ x ∈ pl a b c d e, x < 256 := by rw [pl_yes hm]; exact tagBytes_lt _ _ _ _ _
 have HPlt := Lib.hid hplt
 clear hE hT h0 hb hN hm4 hplt
 go_enter Tryz.func56, Tryz.ntmps56
 go_wp2_with fail
 refine (rprint_any _ _ _ _ _ _).mono ?_
 rw [h15, pr_yes hm]
 rintro r w1 ⟨A1, c1, rfl, hb1, hx⟩
 have HB1 := Lib.hid hb1
 have HE := Lib.hid (HE.out.trans hx)
 clear hx j0 j1 j2 j3 j4 hm hb1
 generalize roomN (S : Int) = R at *
 generalize hpl : pl a b c d e = own at *
 have HPL := Lib.hid hpl
 clear hpl
 go_wp2_with fail
 refine (HR.out _).mono ?_
 rintro r w2 ⟨rfl, rfl⟩
 go_wp2_with fail
 refine (HR.out _).mono ?_
 rintro r w2 ⟨rfl, rfl⟩
 go_wp2_with fail
 refine (rput_yes 2 n _ (fits_iff.2 ⟨rfl, by omega, by show n < 65536; omega⟩)).mono ?_
 rintro r w2 ⟨A2, c2, rfl, ho2, hx2⟩
 have HO2 := Lib.hid ho2
 have HX2 : Hid (Ext w1 w2) := Lib.hid hx2
 have hsz2 := Ext.size HX2.out
 clear ho2 hx2
 go_wp2_with (at_builtin; refine wpList_append_by rfl _ _ 45 rfl w1.heap.size 5 i0 Tryz.underlying45 hi hz0 hz1 hz2 _ 2 (vb (digs 2 n)) rfl HO2.out A1 15 c1 own rfl (HB1.out.ext HX2.out) (by omega) hsz2 ?_)
 intro v3 w3 hown hg
 obtain ⟨hx, A3, c3, rfl, _, ho3⟩ := app_step HX2.out HO2.out hg hown (digs_lt _ _) HB1.out.rd.lt
 have HO3 := Lib.hid ho3
 have HX3 := Lib.hid hx
 have hsz3 := Ext.size HX3.out
 clear hx ho3 hown hg hsz2 HO2 HX2
 go_wp2_with (at_builtin; refine wpList_append_by rfl _ _ 45 rfl w1.heap.size 5 i0 Tryz.underlying45 hi hz0 hz1 hz2 _ (2 + 15) (vb (digs 2 n ++ own)) rfl HO3.out A n cp body rfl (HB.out.ext (HE.out.trans HX3.out)) (by omega) hsz3 ?_)
 intro v4 w4 hown hg
 obtain ⟨hx, A4, c4, rfl, _, ho4⟩ := app_step HX3.out HO3.out hg hown (by intro x hx; rcases List.mem_append.1 hx with h | h; exact digs_lt _ _ x h; exact HPlt.out x h) HB.out.rd.lt
 have HO4 := Lib.hid ho4
 have HX4 := Lib.hid hx
 clear hx ho4 hown hg hsz3 HO3 HX3
 have HPre : Hid (∀ x ∈ digs 2 n ++ own ++ body, x < 256) := Lib.hid (by
  intro x hx
  rcases List.mem_append.1 hx with h | h
  ·rcases List.mem_append.1 h with h | h
   ·exact digs_lt _ _ x h
   ·exact HPlt.out x h
  ·exact HB.out.rd.lt x h)
 go_wp2_with fail
 generalize digs 2 n ++ own ++ body = Pre at *
 go_loopw [10] (fun v wr => ∃ k : Nat, k ≤ m ∧ ∃ A' c' L, v = .slice A' (17 + n + k) c' ∧ Hid (L = Pre ++ List.replicate k 0) ∧ Hid (∀ x ∈ L, x < 256) ∧ Hid (wr.ownsRow w1.heap.size 5 1 (.slice A' (17 + n + k) c') (17 + n + k) (vb L)) ∧ Hid (Ext w1 wr)) (fun v _ => 17 + n + m - lenOf v)
 case atStart => exact ⟨0, Nat.zero_le _, A4, c4, Pre, rfl, Lib.hid (by rw [List.replicate_zero, List.append_nil]), HPre, HO4, HX4⟩
 case round =>
  obtain ⟨k, hk, A5, c5, L, rfl, HLk, HLt, HO5, HX5⟩ := hrel
  have hsz5 := Ext.size HX5.out
  by_cases hlt : k < m
  ·obtain ⟨Z, hZ⟩ : ∃ Z, Z = [0] := ⟨_, rfl⟩
   have hlit := By.lit wr [0] 5 (by decide) (by decide) #[.int .u8 0] rfl
   rw [← hZ] at hlit
   have HY : Hid (By (wr.alloc (.cells #[.int .u8 0] 5)) (some ⟨wr.heap.size, 0, none⟩) 1 1 Z) := Lib.hid (by rw [hZ] at hlit ⊢; exact hlit)
   have HZ1 : Hid (Z = [0]) := Lib.hid hZ
   have hsz6 : w1.heap.size ≤ (wr.alloc (.cells #[.int .u8 0] 5)).heap.size := Nat.le_trans hsz5 (by simp)
   clear hlit hZ
   go_wp2_with (at_builtin; refine wpList_append_by rfl _ _ 45 rfl w1.heap.size 5 i0 Tryz.underlying45 hi hz0 hz1 hz2 _ (17 + n + k) (vb L) rfl (HO5.out.alloc _) (some ⟨wr.heap.size, 0, none⟩) 1 1 Z rfl HY.out (by omega) hsz6 ?_)
   intro v6 w6 hown hg
   obtain ⟨hx, A6, c6, rfl, hb6, ho6⟩ := app_step (HX5.out.alloc _) (HO5.out.alloc _) hg hown HLt.out (by rw [HZ1.out]; decide)
   have HL6 : Hid (L ++ Z = Pre ++ List.replicate (k + 1) 0) := Lib.hid (by rw [HZ1.out, HLk.out, zeros_snoc])
   have HLt6 := Lib.hid hb6.rd.lt
   have HO6 := Lib.hid ho6
   have HX6 := Lib.hid hx
   clear hx ho6 hown hg hsz6 HY HO5 HX5 hb6
   generalize L ++ Z = L6 at *
   go_wp2_with fail
   go_roundw
   case rel => exact ⟨k + 1, by omega, A6, c6, L6, rfl, HL6, HLt6, HO6, HX6⟩
   case measure => simp [lenOf]; omega
  ·have hkm : k = m := by omega
   subst hkm
   have hLF : L = frameH body own S := HLk.out.trans HH.out
   have hs : crcS L < 4294967296 := crcE_lt _ _
   have HZ : Hid (L ++ digs 4 (crcS L) = frameL body own S) := Lib.hid (by rw [hLF]; rfl)
   have HB5 := Lib.hid (Bs.of_own HO5.out HLt.out)
   clear hLF
   generalize hz : crcS L = z at *
   go_wp2_with fail
   refine (rsum_by _ L _ _ _ HB5.out).mono ?_
   rw [hz]
   rintro r w6 ⟨rfl, rfl⟩
   have HZz := Lib.hid hz
   clear hz
   go_wp2_with fail
   refine (rput_yes 4 z _ (fits_iff.2 ⟨rfl, by omega, by show z < 4294967296; omega⟩)).mono ?_
   rintro r w7 ⟨A7, c7, rfl, ho7, hx7⟩
   obtain ⟨D, hD⟩ : ∃ D, D = digs 4 z := ⟨_, rfl⟩
   have hb7 := Bs.of_own ho7 (digs_lt _ _)
   rw [← hD] at hb7
   have HZ := HZ.out
   rw [← hD] at HZ
   have HZ := Lib.hid HZ
   have HB7 : Hid (By w7 A7 4 c7 D) := Lib.hid hb7
   have HX7 : Hid (Ext wr w7) := Lib.hid hx7
   have HO7 := Lib.hid (own_ext HO5.out HX7.out)
   have HX := Lib.hid (HX5.out.trans HX7.out)
   have hsz7 := Ext.size HX.out
   clear ho7 hx7 hb7 hD
   go_wp2_with (at_builtin; refine wpList_append_by rfl _ _ 45 rfl w1.heap.size 5 i0 Tryz.underlying45 hi hz0 hz1 hz2 _ (17 + n + k) (vb L) rfl HO7.out A7 4 c7 D rfl HB7.out (by omega) hsz7 ?_)
   intro v8 w8 hown hg
   have e8 : 17 + n + k + 4 = 64 * S := by omega
   rw [e8] at hown
   obtain ⟨hx, A8, c8, rfl, hb8, ho8⟩ := app_step HX.out HO7.out hg hown HLt.out HB7.out.rd.lt
   rw [HZ.out] at hb8 ho8
   have HB8 := Lib.hid hb8
   have HO8 := Lib.hid (own_lower ho8 HE.out.size)
   have HE8 := Lib.hid (HE.out.trans hx)
   clear hx hb8 ho8 hown hg hsz7 e8
   go_wp2_with fail
   go_ret2
   exact ⟨A8, c8, rfl, by rw [HPL.out]; exact HB8.out, HE8.out, by rw [HPL.out]; exact HO8.out⟩
theorem rseal_own (a b c d e s : Int) (A : Option Addr) (n cp : Nat) (body : List Nat) (w : World) (hb : By w A n cp body) :
 Calls Tryz.prog 56 #[.agg #[.int .i64 a, .int .i64 b, .int .i64 c, .int .i64 d, .int .i64 e], .slice A n cp, .int .i64 s] w fun r w' => ∃ A' c', r = .returned (.tuple #[.slice A' (sealL a b c d e body s).length c', .int .i64 (sealE a b c d e n s)]) ∧ By w' A' (sealL a b c d e body s).length c' (sealL a b c d e body s) ∧ Ext w w' ∧ w'.ownsRow w.heap.size 5 1 (.slice A' (sealL a b c d e body s).length c') (sealL a b c d e body s).length (vb (sealL a b c d e body s)) := by
 have hlen : body.length = n := Bs.len hb
 by_cases h : roomN s = 0 ∨ mayB a b c d e = false
 ·have hE := sealE_arg (n := n) h
  rw [sealL_no (by rw [hlen, hE]; omega), hE]
  exact (rseal_arg a b c d e s A n cp w h).mono fun _ w' ⟨h1, h2⟩ => ⟨none, 0, h1, By.nil_ w', h2, World.ownsRow_nil _ _ _ _⟩
 ·have h0 : roomN s ≠ 0 := fun hh => h (.inl hh)
  have hm : mayB a b c d e = true := by
   by_cases hm : mayB a b c d e = true
   ·exact hm
   ·exact absurd (.inr (by simpa using hm)) h
  by_cases hn : roomN s < n
  ·have hE := sealE_long h0 hm hn
   rw [sealL_no (by rw [hlen, hE]; omega), hE]
   exact (rseal_long a b c d e s A n cp w h0 hm hn).mono fun _ w' ⟨h1, h2⟩ => ⟨none, 0, h1, By.nil_ w', h2, World.ownsRow_nil _ _ _ _⟩
  ·obtain ⟨S, rfl⟩ := Int.eq_ofNat_of_zero_le (show 0 ≤ s by have := roomN_pos (s := s) (by omega); omega)
   have hE := sealE_yes h0 hm (show n ≤ roomN (S : Int) by omega)
   have hfit := room_fits (show n ≤ roomN (S : Int) by omega) (by omega)
   rw [sealL_yes (by rw [hlen]; exact hE), hE, Int.toNat_natCast, frameL_len (by rw [pl_yes hm, tagBytes_len]) (by omega) (by omega)]
   exact rseal_yes_own a b c d e S A n cp body w hb h0 hm (by omega)
theorem rseal_any (a b c d e s : Int) (A : Option Addr) (n cp : Nat) (body : List Nat) (w : World) (hb : By w A n cp body) :
 Calls Tryz.prog 56 #[.agg #[.int .i64 a, .int .i64 b, .int .i64 c, .int .i64 d, .int .i64 e], .slice A n cp, .int .i64 s] w fun r w' => ∃ A' c', r = .returned (.tuple #[.slice A' (sealL a b c d e body s).length c', .int .i64 (sealE a b c d e n s)]) ∧ By w' A' (sealL a b c d e body s).length c' (sealL a b c d e body s) ∧ Ext w w' :=
 (rseal_own a b c d e s A n cp body w hb).mono fun _ _ ⟨A', c', h1, h2, h3, _⟩ => ⟨A', c', h1, h2, h3⟩
end
section
open Go Go.RowKit
def DM.puts (m : DM) (s : Int) (L : List Nat) : Nat → DM
 | 0 => m
 | k + 1 => ((m.puts s L k).write (s + (k : Int)) ((L.drop (64 * k)).take 64)).2
def wideN (a b c d e : Int) : Nat := if mayB a b c d e = true then wid b else 0
theorem wideN_le (a b c d e : Int) : wideN a b c d e ≤ 2 := by
 unfold wideN
 split
 ·exact wid_le b
 ·omega
def Act6.sE (x : Act6) : Int := sealE x.ta x.tb x.tc x.td x.te x.bn (wideN x.ta x.tb x.tc x.td x.te : Nat)
def Act6.sL (x : Act6) : List Nat := sealL x.ta x.tb x.tc x.td x.te x.bl (wideN x.ta x.tb x.tc x.td x.te : Nat)
def DM.act6 (m : DM) (x : Act6) : DM :=
 if x.sl = true then (if x.sE = 0 then m.puts (firstS x.tb x.tc) x.sL (wideN x.ta x.tb x.tc x.td x.te) else m) else (m.act x.act.kind x.act.sec x.act.num x.act.bl x.act.kl).2
theorem puts_waits (m : DM) (s : Int) (L : List Nat) (k : Nat) : (m.puts s L k).waits.length ≤ m.waits.length + k := by
 induction k with
 | zero => exact Nat.le_refl _
 | succ k ih =>
  unfold DM.puts DM.write
  split
  ·show (m.puts s L k).waits.length ≤ _; omega
  ·split
   ·show (m.puts s L k).waits.length ≤ _; omega
   ·split
    ·show (m.puts s L k).waits.length ≤ _; omega
    ·simp; omega
theorem act6_waits (m : DM) (x : Act6) : (m.act6 x).waits.length ≤ m.waits.length + 2 := by
 unfold DM.act6
 split
 ·split
  ·have h1 := puts_waits m (firstS x.tb x.tc) x.sL (wideN x.ta x.tb x.tc x.td x.te)
   have h2 := wideN_le x.ta x.tb x.tc x.td x.te
   omega
  ·omega
 ·have := act_waits m x.act.kind x.act.sec x.act.num x.act.bl x.act.kl
  omega
set_option maxHeartbeats 800000 in
theorem wide6_any (a b c d e : Int) (w : World) (hL : LaidT w) :
 Calls Tryz.prog 57 #[.agg #[.int .i64 a, .int .i64 b, .int .i64 c, .int .i64 d, .int .i64 e]] w fun r w' => r = .returned (.int .i64 (wideN a b c d e : Nat)) ∧ Ext w w' := by
 have hE := (Ext.refl w).alloc (.cells #[.int .i64 a, .int .i64 b, .int .i64 c, .int .i64 d, .int .i64 e] 44)
 have HT := Lib.hid (heap_alloc_new w (.cells #[.int .i64 a, .int .i64 b, .int .i64 c, .int .i64 d, .int .i64 e] 44))
 have HE := Lib.hid hE
 have HL := Lib.hid hL
 clear hE hL
 obtain ⟨W, hW⟩ : ∃ W, wideN a b c d e = W := ⟨_, rfl⟩
 rw [hW]
 by_cases hm : mayB a b c d e = true
 ·have HW : Hid (wid b = W) := Lib.hid (by rw [← hW]; unfold wideN; rw [if_pos hm])
  clear hW
  go_enter Tryz.func57, Tryz.ntmps57
  go_wp2_with fail
  refine (may_any _ _ _ _ _ _ (HL.out.ext HE.out)).mono ?_
  rw [hm]
  rintro r w1 ⟨rfl, hx⟩
  have ht := (hx.block _ (Array.getElem?_eq_some_iff.1 HT.out).1).trans HT.out
  have HE := Lib.hid (HE.out.trans hx)
  obtain ⟨⟨i0, i1, i2, i3, i4⟩, _⟩ := five_cells ht
  clear hx ht hm
  go_wp2_with fail
  refine (wide_any _ _ (HL.out.ext HE.out)).mono ?_
  rw [HW.out]
  rintro r w2 ⟨rfl, hx⟩
  have HE := Lib.hid (HE.out.trans hx)
  clear hx
  go_wp2_with fail
  go_ret
  exact ⟨rfl, HE.out⟩
 ·have hm' : mayB a b c d e = false := by simpa using hm
  have HW : Hid (W = 0) := Lib.hid (by rw [← hW]; unfold wideN; rw [if_neg hm])
  clear hW hm
  go_enter Tryz.func57, Tryz.ntmps57
  go_wp2_with fail
  refine (may_any _ _ _ _ _ _ (HL.out.ext HE.out)).mono ?_
  rw [hm']
  rintro r w1 ⟨rfl, hx⟩
  have HE := Lib.hid (HE.out.trans hx)
  clear hx hm'
  go_wp2_with fail
  go_ret
  exact ⟨by rw [HW.out]; rfl, HE.out⟩
def Great6E (n : Nat) (l : List Act6) (w : World) (e : Ending) (w' : World) : Prop := ∃ b : Bool, e = .returned (.bool b) ∧ Ext w w' ∧ (b = false → n ≤ 60 ∧ ∀ a ∈ l, a.bn ≤ 100 ∧ a.act.bn ≤ 200 ∧ a.act.kn ≤ 100)
theorem acts_one6 (w : World) (a : Act5) (h : a.Ok w w.heap.size) : Acts (w.alloc (.cells #[.int .u8 (a.kind : Int), .int .i64 a.sec, .int .i64 a.num, .slice a.bA a.bn a.bc, .slice a.kA a.kn a.kc] 48)) (w.alloc (.cells #[.int .u8 (a.kind : Int), .int .i64 a.sec, .int .i64 a.num, .slice a.bA a.bn a.bc, .slice a.kA a.kn a.kc] 48)).heap.size (some ⟨w.heap.size, 0, none⟩) 1 1 [a] := by
 refine ⟨rfl, Nat.le_refl _, by omega, fun b hb => ?_, fun _ => ⟨w.heap.size, 0, rfl, by simp, fun j b hb k v hv => ?_⟩, fun h => by cases h⟩
 ·obtain rfl := List.mem_singleton.1 hb
  exact (h.below ((Ext.refl w).alloc _)).more ((Ext.refl w).alloc _).size
 ·match j, hb with
  | 0, hb =>
   injection hb with hb
   subst hb
   rw [World.cell?_alloc_new]
   rw [show 0 + (0 * 5 + k) = k by omega]
   exact (List.getElem?_toArray ..).trans hv
set_option maxHeartbeats 1600000 in
theorem great6_of {w : World} {B : Nat} (hBw : B ≤ w.heap.size) (A : Option Addr) (n c : Nat) (l : List Act6) (h : Acts6 w B A n c l) :
 Calls Tryz.prog 32 #[.slice A n c] w (Great6E n l w) := by
 have HA := Lib.hid h
 have hn := Nat.zero_le n
 have HBW := Lib.hid hBw
 clear h hBw
 go_enter Tryz.func32, Tryz.ntmps32
 by_cases hn120 : 60 < n
 ·go_wp2_with fail
  go_ret
  exact ⟨true, rfl, Ext.refl _, fun h => by cases h⟩
 go_wp2_with fail
 go_loopw [3] (fun i wr => ∃ k : Nat, k ≤ n ∧ i = .int .i64 k ∧ Hid (Ext w wr) ∧ Hid (∀ a ∈ l.take k, a.bn ≤ 100 ∧ a.act.bn ≤ 200 ∧ a.act.kn ≤ 100)) (fun i _ => n - (intOf i).toNat)
 case atStart => exact ⟨0, Nat.zero_le _, rfl, Lib.hid (Ext.refl _), Lib.hid fun a ha => by simp at ha⟩
 case round =>
  obtain ⟨k, hkn, rfl, HX, HT⟩ := hrel
  by_cases hlt : k < n
  ·obtain ⟨g, o, a, rfl, hg, ha, hok, hc⟩ := HA.out.at_ hlt
   have HAL := Lib.hid ha
   have HOK : Hid (a.act.Ok wr wr.heap.size) := Lib.hid ((hok.act.below (HX.out.mono HBW.out)).more (Nat.le_trans HBW.out HX.out.size))
   obtain ⟨h0, h1, h2, h3, h4, h5, h6, h7, h8, h9, h10, h11⟩ := hc.below (HX.out.mono HBW.out) hg
   by_cases hb : 100 < a.bn
   ·clear ha hok hc
    go_wp2_with fail
    go_ret
    exact ⟨true, rfl, HX.out, fun h => by cases h⟩
   ·clear ha hok hc h0 h1 h2 h3 h4 h5
    go_wp2_with fail
    refine (great_of _ 1 1 [a.act] (acts_one6 wr a.act HOK.out)).mono ?_
    rintro e w2 ⟨b, rfl, rfl, hgr⟩
    have HX2 := Lib.hid (HX.out.alloc (.cells #[.int .u8 (a.act.kind : Int), .int .i64 a.act.sec, .int .i64 a.act.num, .slice a.act.bA a.act.bn a.act.bc, .slice a.act.kA a.act.kn a.act.kc] 48))
    have HGR := Lib.hid hgr
    clear hgr
    cases b with
    | true =>
     go_wp2_with fail
     go_ret
     exact ⟨true, rfl, HX2.out, fun h => by cases h⟩
    | false =>
     go_wp2_with fail
     go_roundw
     case rel => exact ⟨k + 1, by omega, by go_num, HX2, Lib.hid fun b hb' => by
      rw [List.take_add_one, HAL.out] at hb'
      rcases List.mem_append.1 hb' with h | h
      ·exact HT.out b h
      ·simp only [Option.toList_some, List.mem_singleton] at h
       subst h
       have := (HGR.out (by trivial)).2 b.act (List.mem_singleton.2 rfl)
       exact ⟨by omega, this.1, this.2⟩⟩
     case measure => simp [intOf]; omega
  ·go_wp2_with fail
   go_ret
   refine ⟨false, rfl, HX.out, fun _ => ⟨by omega, fun a ha => HT.out a ?_⟩⟩
   rw [List.take_of_length_le (by have := HA.out.len; omega)]
   exact ha
end
section
open Go Go.RowKit
theorem sealE_zero {a b c d e s : Int} {n : Nat} : sealE a b c d e n s = 0 ↔ roomN s ≠ 0 ∧ mayB a b c d e = true ∧ n ≤ roomN s := by
 constructor
 ·intro h
  by_cases h1 : roomN s = 0 ∨ mayB a b c d e = false
  ·rw [sealE_arg h1] at h; cases h
  ·have h0 : roomN s ≠ 0 := fun hh => h1 (.inl hh)
   have hm : mayB a b c d e = true := by
    by_cases hm : mayB a b c d e = true
    ·exact hm
    ·exact absurd (.inr (by simpa using hm)) h1
   refine ⟨h0, hm, ?_⟩
   rcases Nat.lt_or_ge (roomN s) n with h2 | h2
   ·rw [sealE_long h0 hm h2] at h; cases h
   ·exact h2
 ·rintro ⟨h0, hm, hn⟩
  exact sealE_yes h0 hm hn
theorem sealL_len {a b c d e s : Int} {body : List Nat} (h : sealE a b c d e body.length s = 0) : (sealL a b c d e body s).length = 64 * s.toNat ∧ 1 ≤ s ∧ s ≤ 2 := by
 obtain ⟨h0, hm, hn⟩ := sealE_zero.1 h
 obtain ⟨S, rfl⟩ := Int.eq_ofNat_of_zero_le (show 0 ≤ s by have := roomN_pos (s := s) (by omega); omega)
 have hfit := room_fits hn (by omega)
 rw [sealL_yes h, Int.toNat_natCast, frameL_len (by rw [pl_yes hm, tagBytes_len]) (by omega) (by omega)]
 omega
end
section
open Go Go.RowKit
def box6 (x : Act6) : Obj := .cells #[.bool x.sl, .int .i64 x.ta, .int .i64 x.tb, .int .i64 x.tc, .int .i64 x.td, .int .i64 x.te, .slice x.bA x.bn x.bc, .int .u8 (x.act.kind : Int), .int .i64 x.act.sec, .int .i64 x.act.num, .slice x.act.bA x.act.bn x.act.bc, .slice x.act.kA x.act.kn x.act.kc] 50
theorem box6_cells {w : World} {g : Nat} {x : Act6} (h : w.heap[g]? = some (box6 x)) : w.cell? ⟨g, 0, none⟩ = some (.bool x.sl) ∧ w.cell? ⟨g, 1, none⟩ = some (.int .i64 x.ta) ∧ w.cell? ⟨g, 2, none⟩ = some (.int .i64 x.tb) ∧ w.cell? ⟨g, 3, none⟩ = some (.int .i64 x.tc) ∧ w.cell? ⟨g, 4, none⟩ = some (.int .i64 x.td) ∧ w.cell? ⟨g, 5, none⟩ = some (.int .i64 x.te) ∧
 w.cell? ⟨g, 6, none⟩ = some (.slice x.bA x.bn x.bc) ∧ w.cell? ⟨g, 7, none⟩ = some (.int .u8 (x.act.kind : Int)) ∧ w.cell? ⟨g, 8, none⟩ = some (.int .i64 x.act.sec) ∧ w.cell? ⟨g, 9, none⟩ = some (.int .i64 x.act.num) ∧ w.cell? ⟨g, 10, none⟩ = some (.slice x.act.bA x.act.bn x.act.bc) ∧ w.cell? ⟨g, 11, none⟩ = some (.slice x.act.kA x.act.kn x.act.kc) :=
 ⟨cell_of_row w g 0 _ _ _ h, cell_of_row w g 1 _ _ _ h, cell_of_row w g 2 _ _ _ h, cell_of_row w g 3 _ _ _ h, cell_of_row w g 4 _ _ _ h, cell_of_row w g 5 _ _ _ h, cell_of_row w g 6 _ _ _ h, cell_of_row w g 7 _ _ _ h, cell_of_row w g 8 _ _ _ h, cell_of_row w g 9 _ _ _ h, cell_of_row w g 10 _ _ _ h, cell_of_row w g 11 _ _ _ h⟩
theorem By.piece {w : World} {g o n c : Nat} {l : List Nat} (h : By w (some ⟨g, o, none⟩) n c l) (k : Nat) (hk : k + 64 ≤ n) : By w (some ⟨g, o + k, none⟩) 64 (c - k) ((l.drop k).take 64) := by
 have hl := h.len
 have hc := h.cap
 refine ⟨by rw [List.length_take, List.length_drop]; omega, by omega, by have := h.most; omega, (h.rd.drop rfl k).take 64, fun e => by cases e⟩
structure Left (w0 w : World) (d : Nat) (F : Nat → Prop) (G : Nat → Prop) (v : World) (m : DM) : Prop where
 dk : DK w0 v d F m
 le : ∀ i, F i → G i
 mod : Mod G w v
theorem Left.step {w0 w v v' : World} {d : Nat} {F G : Nat → Prop} {m m' : DM} (h : Left w0 w d F G v m) (hG : ∀ i, v.heap.size ≤ i → G i) (hp : PDisk v' d (grow F v v') m') (hm : Mod F v v') : Left w0 w d (grow F v v') G v' m' :=
 ⟨h.dk.step hp hm, fun i hi => hi.elim (h.le i) fun hh => hG i hh.1, h.mod.trans hm fun i hi => .inl (h.le i hi)⟩
theorem Left.ext {w0 w v v' : World} {d : Nat} {F G : Nat → Prop} {m : DM} (h : Left w0 w d F G v m) (hx : Ext v v') : Left w0 w d F G v' m := ⟨h.dk.ext hx, h.le, h.mod.ext hx⟩
theorem keep_box {u V w' : World} {g : Nat} {x0 x1 x2 x3 x4 x5 x6 x7 x8 x9 x10 x11 : Value} {t : TypeId} (k : Hid (Ext u w')) (hV : u = V.drew) (h : Hid (V.heap[g]? = some (.cells #[x0, x1, x2, x3, x4, x5, x6, x7, x8, x9, x10, x11] t (0, 0)))) :
 w'.cell? ⟨g, 1, none⟩ = some x1 ∧ w'.cell? ⟨g, 2, none⟩ = some x2 ∧ w'.cell? ⟨g, 3, none⟩ = some x3 ∧ w'.cell? ⟨g, 4, none⟩ = some x4 ∧ w'.cell? ⟨g, 5, none⟩ = some x5 ∧ w'.cell? ⟨g, 6, none⟩ = some x6 := by
 subst hV
 have h2 := (k.out.block g (Array.getElem?_eq_some_iff.1 h.out).1).trans h.out
 exact ⟨cell_of_row w' g 1 _ _ _ h2, cell_of_row w' g 2 _ _ _ h2, cell_of_row w' g 3 _ _ _ h2, cell_of_row w' g 4 _ _ _ h2, cell_of_row w' g 5 _ _ _ h2, cell_of_row w' g 6 _ _ _ h2⟩
theorem keep_two2 {u w' : World} {g : Nat} {x0 x1 x2 x3 x4 x5 x6 x7 x8 x9 x10 x11 : Value} {t : TypeId} {G : Nat → Prop} (k : Hid (Mod G u w')) (hg : Hid (¬ G g)) (h : Hid (u.heap[g]? = some (.cells #[x0, x1, x2, x3, x4, x5, x6, x7, x8, x9, x10, x11] t (0, 0)))) :
 w'.cell? ⟨g, 2, none⟩ = some x2 ∧ w'.cell? ⟨g, 3, none⟩ = some x3 := by
 have h2 := heap_mod h.out k.out hg.out
 exact ⟨cell_of_row w' g 2 _ _ _ h2, cell_of_row w' g 3 _ _ _ h2⟩
theorem firstS_in (g p : Int) : -1 ≤ firstS g p ∧ firstS g p ≤ 156 := by
 have h1 := beg_le g
 have h2 := wid_le g
 by_cases hh : 0 ≤ p ∧ p < plc g
 ·rw [firstS_yes hh]
  have hr := plc_some (r := g) (by omega)
  rcases region_cases hr with rfl | rfl | rfl | rfl | rfl <;> simp [beg, plc, wid] at hh ⊢ <;> omega
 ·rw [firstS_no hh]; omega
theorem off_piece {F G : Nat → Prop} {g o o' : Nat} (hF : ∀ i, F i → G i) (h : Off G (some ⟨g, o, none⟩)) : Off F (some ⟨g, o', none⟩) := fun p hp hh => by
 injection hp with hp
 subst hp
 exact h _ rfl (hF _ hh)
end
section
open Go Go.RowKit
structure Gath (w0 w : World) (v : Value) (l : List Nat) (k : Nat) : Prop where
 own : w.ownsRow w0.heap.size 5 1 v l.length (vb l)
 lt : ∀ b ∈ l, b < 256
 few : l.length ≤ 64 * k
 ext : Ext w0 w
theorem Gath.start (w : World) : Gath w w (.slice none 0 0) [] 0 := ⟨World.ownsRow_nil _ _ _ _, fun b hb => (by cases hb), by simp, Ext.refl w⟩
theorem Gath.more {w0 w w' : World} {v : Value} {l : List Nat} {k : Nat} (h : Gath w0 w v l k) (hx : Ext w w') : Gath w0 w' v l k := ⟨own_ext h.own hx, h.lt, h.few, h.ext.trans hx⟩
theorem Gath.form {w0 w : World} {v : Value} {l : List Nat} {k : Nat} (h : Gath w0 w v l k) : ∃ A c, v = .slice A l.length c ∧ By w A l.length c l := by
 obtain ⟨A, c, rfl, _, _⟩ := own_form h.own
 exact ⟨A, c, rfl, Bs.of_own h.own h.lt⟩
theorem Gath.app {w0 w w' : World} {v v' : Value} {l l2 : List Nat} {k : Nat} (h : Gath w0 w v l k) (hg : w.grownBy w' v.ownBlock) (ho : w'.ownsRow w0.heap.size 5 1 v' (l.length + l2.length) (vb l ++ vb l2)) (hl : ∀ b ∈ l2, b < 256) (hn : l2.length ≤ 64) : Gath w0 w' v' (l ++ l2) (k + 1) := by
 refine ⟨by rw [List.length_append, vb_append]; exact ho, fun b hb => (List.mem_append.1 hb).elim (h.lt b) (hl b), ?_, Below.grown h.ext hg (Ext.size h.ext) (fun g hg' => (h.own.lt g hg').1)⟩
 have := h.few
 rw [List.length_append]
 omega
end
section
theorem write_size (m : DM) (s : Int) (b : List Nat) : (m.write s b).2.size = m.size := by
 unfold DM.write
 split
 ·rfl
 ·split
  ·rfl
  ·split <;> rfl
theorem puts_size (m : DM) (S : Int) (L : List Nat) (k : Nat) : (m.puts S L k).size = m.size := by
 induction k with
 | zero => rfl
 | succ k ih => exact (write_size _ _ _).trans ih
theorem flush_size (m : DM) : m.flush.2.size = m.size := by
 unfold DM.flush
 split
 ·rfl
 ·split
  ·rfl
  ·exact DM.comes_size _ _
theorem act_size (m : DM) (kind : Nat) (sec num : Int) (bytes : List Nat) (keep : List Bool) : (m.act kind sec num bytes keep).2.size = m.size := by
 unfold DM.act
 split
 ·exact flush_size m
 ·unfold DM.crash; split
  ·rfl
  ·exact DM.comes_size _ _
 ·unfold DM.start; split <;> rfl
 ·unfold DM.flip; split
  ·rfl
  ·simp [DM.size]
 ·unfold DM.lose; split <;> rfl
 ·unfold DM.stray; split
  ·rfl
  ·simp [DM.size]
 ·unfold DM.setPower; split
  ·rfl
  ·split <;> rfl
 ·exact write_size _ _ _
theorem act6_size (m : DM) (x : Act6) : (m.act6 x).size = m.size := by
 unfold DM.act6
 split
 ·split
  ·exact puts_size _ _ _ _
  ·rfl
 ·exact act_size _ _ _ _ _ _
end
section
open Go Go.RowKit
def bl (s : ByteArray) : List Nat := s.data.toList.map UInt8.toNat
end
section
open Go
structure Ent where
 k : Nat := 0
 cl : Int := 0
 sq : Int := 0
 ok : Nat := 0
 key : ByteArray := ByteArray.empty
 old : ByteArray := ByteArray.empty
 val : ByteArray := ByteArray.empty
instance : Inhabited Ent := ⟨{}⟩
end
section
open Go
structure Rec where
 st : Nat := 0
 ix : Int := 0
 bx : Int := 0
 yb : Int := 0
 wh : Int := 0
instance : Inhabited Rec := ⟨{}⟩
structure CopL where
 st : Nat := 0
 ix : Int := 0
 bx : Int := 0
 yb : Int := 0
 e : Ent := {}
instance : Inhabited CopL := ⟨{}⟩
def Rec.of (p : Rec) (i : Int) : Prop := p.st = 1 ∧ p.ix = i
def CopL.of (c : CopL) (i : Int) : Prop := c.st = 1 ∧ c.ix = i
def gtL (x y a b : Int) : Prop := a < x ∨ (a = x ∧ b < y)
instance (p : Rec) (i : Int) : Decidable (p.of i) := by unfold Rec.of; exact inferInstance
instance (c : CopL) (i : Int) : Decidable (c.of i) := by unfold CopL.of; exact inferInstance
instance (x y a b : Int) : Decidable (gtL x y a b) := by unfold gtL; exact inferInstance
def beyL (p : Rec) (f0 f1 : CopL) (i : Int) : Prop := (p.st = 1 ∧ i < p.ix) ∨ (f0.st = 1 ∧ i < f0.ix) ∨ (f1.st = 1 ∧ i < f1.ix)
def badL (f0 f1 : CopL) : Prop := f0.st = 2 ∨ f1.st = 2
instance (p : Rec) (f0 f1 : CopL) (i : Int) : Decidable (beyL p f0 f1 i) := by unfold beyL; exact inferInstance
instance (f0 f1 : CopL) : Decidable (badL f0 f1) := by unfold badL; exact inferInstance
def candL (p : Rec) (c : CopL) (i : Int) : Prop := c.of i ∧ ¬ gtL p.bx p.yb c.bx c.yb
instance (p : Rec) (c : CopL) (i : Int) : Decidable (candL p c i) := by unfold candL; exact inferInstance
end
section
def pair2 (a b : List Nat) : List Nat := if a = [] ∨ b = [] then [] else a ++ b
theorem nilW_bad (r g p : Int) : stM [] r g p = 2 := by
 have hz : szB [] = false := by decide
 rw [(mine_bad (size_bad hz)).1]
 exact stN_size hz
end
section
section
variable {m : DM} {T : Nat → Prop} {h0 : Nat → List Nat}
end
section
variable {m : DM} {s : Nat} {L : List Nat}
end
section
variable {m : DM} {pw : Int}
end
end
section
open Go Go.RowKit Go.Shelf
attribute [local go_sem] Oper.semAt_some
theorem grown_of_ext {w w' : World} (h : Ext w w') : w.grownBy w' none := ⟨h.os, h.tape, h.output, h.size, fun k hk _ => h.block k hk⟩
theorem mod_cell {G : Nat → Prop} {w w' : World} (k : Mod G w w') {g i : Nat} {v : Value} (hg : ¬ G g) (h : w.cell? ⟨g, i, none⟩ = some v) : w'.cell? ⟨g, i, none⟩ = some v :=
 (World.cell?_of_block (a := ⟨g, i, none⟩) (k.block g (World.block_lt_of_cell? w _ h) hg)).trans h
theorem ext_of_cell {w w' : World} {g i : Nat} {v : Value} (h : Ext w w') (hc : w.cell? ⟨g, i, none⟩ = some v) : w'.cell? ⟨g, i, none⟩ = some v := (Below.cell h (p := ⟨g, i, none⟩) (World.block_lt_of_cell? w _ hc)).trans hc
theorem mod_put {G : Nat → Prop} {w W : World} (l : Nat) (o o' : Obj) (hG : ∀ k, w.heap.size ≤ k → G k) (hl : w.heap.size ≤ l) (_ : W.heap[l]? = some o) : Mod G W (W.putObj l o') :=
 (Mod.refl G W).grown (grownBy_putObj' W l o') (fun k e => by cases e; exact .inl (hG l hl))
end
section
open Go Go.RowKit Go.Shelf
attribute [local go_sem] Oper.semAt_some
end
section
open Go Go.RowKit Go.Shelf
attribute [local go_sem] Oper.semAt_some
theorem firstS_le (g p : Int) : firstS g p ≤ 156 := by
 have h1 := beg_le g
 have h2 := wid_le g
 by_cases hh : 0 ≤ p ∧ p < plc g
 ·rw [firstS_yes hh]
  have hr := plc_some (r := g) (by omega)
  rcases region_cases hr with rfl | rfl | rfl | rfl | rfl <;> simp [beg, plc, wid] at hh ⊢ <;> omega
 ·rw [firstS_no hh]; omega
end
section
open Go Go.RowKit Go.Shelf
attribute [local go_sem] Oper.semAt_some
end
end Go.Proofs.YtmpaocpgoihliaaGreatDoor

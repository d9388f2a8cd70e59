/-
  The contract of the frame's Seal.
-/
import Derived.Test.YtmpaocpgoihliaaGreatDoorP00
import Derived.Test.YtmpaocpgoihliaaGreatDoorP01
import Derived.Test.YtmpaocpgoihliaaGreatDoorP02
import Derived.Test.YtmpaocpgoihliaaGreatDoorP06
import Derived.Test.YtmpaocpgoihliaaGreatDoorP08
import Derived.OwnWalk
import Derived.LaidMore
import Derived.Lib.LaidTab
import Derived.Stop.LaidErr
import Derived.Deep.Fields
import Derived.OpenShut
import Derived.ProofKit
import Derived.Test.YtmpaocpgoihliaaGreatDoorRows
import Derived.Stop.Joined
namespace Go.Proofs.YtmpaocpgoihliaaGreatDoor
set_option maxRecDepth 100000
section
open Go Go.RowKit
structure LaidF (w : World) : Prop where
 a : LaidA w
 h : LaidH w
theorem LaidF.ext {a b : World} (h : LaidF a) (k : Ext a b) : LaidF b := ⟨h.a.ext k, fun i hi => Ext.cell k (h.h i hi)⟩
def sealE (a b c d e : Int) (n : Nat) (s : Int) : Int := if roomN s = 0 ∨ mayB a b c d e = false then 2 else if roomN s < n then 3 else 0
def sealL (a b c d e : Int) (body : List Nat) (s : Int) : List Nat := if sealE a b c d e body.length s = 0 then frameL body (pl a b c d e) s.toNat else []
theorem sealE_arg {a b c d e s : Int} {n : Nat} (h : roomN s = 0 ∨ mayB a b c d e = false) : sealE a b c d e n s = 2 := by unfold sealE; rw [if_pos h]
theorem sealE_long {a b c d e s : Int} {n : Nat} (h : roomN s ≠ 0) (hm : mayB a b c d e = true) (hn : roomN s < n) : sealE a b c d e n s = 3 := by unfold sealE; rw [if_neg (by rw [hm]; simpa using h), if_pos hn]
theorem sealE_yes {a b c d e s : Int} {n : Nat} (h : roomN s ≠ 0) (hm : mayB a b c d e = true) (hn : n ≤ roomN s) : sealE a b c d e n s = 0 := by unfold sealE; rw [if_neg (by rw [hm]; simpa using h), if_neg (by omega)]
theorem sealL_no {a b c d e s : Int} {body : List Nat} (h : sealE a b c d e body.length s ≠ 0) : sealL a b c d e body s = [] := by unfold sealL; rw [if_neg h]
theorem sealL_yes {a b c d e s : Int} {body : List Nat} (h : sealE a b c d e body.length s = 0) : sealL a b c d e body s = frameL body (pl a b c d e) s.toNat := by unfold sealL; rw [if_pos h]
theorem frame_split (body own : List Nat) (S m : Nat) (hm : m = 64 * S - 21 - body.length) : digs 2 body.length ++ own ++ body ++ List.replicate m 0 = frameH body own S := by subst hm; rfl
theorem sum_by (A : Option Addr) (l : List Nat) (n c : Nat) (w : World) (hL : LaidH w) (hb : By w A n c l) :
 Calls Tryz.prog 195 #[.slice A n c] w fun e w' => e = .returned (.int .u32 ((crcS l : Nat) : Int)) ∧ Ext w w' :=
 (sum_any A l n c _ w hL hb.len hb.rd (by have := hb.cap; have := hb.most; unfold maxLen; omega)).mono fun _ _ ⟨h, hw⟩ => ⟨h, by subst hw; exact Ext.refl _⟩
theorem join4_by {A1 A2 A3 A4 : Option Addr} {n1 n2 n3 n4 c1 c2 c3 c4 : Nat} {l1 l2 l3 l4 : List Nat} (w : World) (h1 : By w A1 n1 c1 l1) (h2 : By w A2 n2 c2 l2) (h3 : By w A3 n3 c3 l3) (h4 : By w A4 n4 c4 l4) (N : Nat) (hN : n1 + n2 + n3 + n4 = N) (hN2 : N ≤ 140737488355328) :
 Calls Tryz.prog 103 #[.slice (some ⟨w.heap.size, 0, none⟩) 4 4] (w.alloc (.cells #[.slice A1 n1 c1, .slice A2 n2 c2, .slice A3 n3 c3, .slice A4 n4 c4] 45)) fun e w' => ∃ A' c', e = .returned (.slice A' N c') ∧ By w' A' N c' (l1 ++ l2 ++ l3 ++ l4) ∧ Ext w w' := by
 have hcat : cat [(.slice A1 n1 c1, l1), (.slice A2 n2 c2, l2), (.slice A3 n3 c3, l3), (.slice A4 n4 c4, l4)] = l1 ++ l2 ++ l3 ++ l4 := by simp [cat]
 rw [← hcat]
 refine join_by _ 4 N w _ rfl rfl ?_ (by rw [hcat, List.length_append, List.length_append, List.length_append, h1.len, h2.len, h3.len, h4.len]; exact hN) ?_ (by omega) hN2
 ·intro p hp
  simp only [List.mem_cons, List.not_mem_nil, or_false] at hp
  rcases hp with rfl | rfl | rfl | rfl
  ·exact ⟨_, _, _, rfl, h1⟩
  ·exact ⟨_, _, _, rfl, h2⟩
  ·exact ⟨_, _, _, rfl, h3⟩
  ·exact ⟨_, _, _, rfl, h4⟩
 ·rw [hcat]
  intro b hb
  simp only [List.mem_append] at hb
  rcases hb with ((h | h) | h) | h
  ·exact h1.rd.lt b h
  ·exact h2.rd.lt b h
  ·exact h3.rd.lt b h
  ·exact h4.rd.lt b h
theorem join2_own {A1 A2 : Option Addr} {n1 n2 c1 c2 : Nat} {l1 l2 : List Nat} (w : World) (h1 : By w A1 n1 c1 l1) (h2 : By w A2 n2 c2 l2) (hN : n1 + n2 ≤ 140737488355328) :
 Calls Tryz.prog 103 #[.slice (some ⟨w.heap.size, 0, none⟩) 2 2] (w.alloc (.cells #[.slice A1 n1 c1, .slice A2 n2 c2] 45)) fun e w' => ∃ A' c', e = .returned (.slice A' (n1 + n2) c') ∧ w'.ownsRow w.heap.size 5 1 (.slice A' (n1 + n2) c') (n1 + n2) (vb (l1 ++ l2)) ∧ By w' A' (n1 + n2) c' (l1 ++ l2) ∧ Ext w w' := by
 have hcat : cat [(.slice A1 n1 c1, l1), (.slice A2 n2 c2, l2)] = l1 ++ l2 := by simp [cat]
 have hlen : (cat [(Value.slice A1 n1 c1, l1), (Value.slice A2 n2 c2, l2)]).length = n1 + n2 := by rw [hcat, List.length_append, h1.len, h2.len]
 refine (join_any _ 2 2 [(.slice A1 n1 c1, l1), (.slice A2 n2 c2, l2)] _ (parts_lit rfl rfl ?_) (by omega) (by rw [hlen]; omega)).mono ?_
 ·intro p hp
  simp only [List.mem_cons, List.not_mem_nil, or_false] at hp
  rcases hp with rfl | rfl
  ·exact ⟨_, _, _, rfl, h1⟩
  ·exact ⟨_, _, _, rfl, h2⟩
 ·rintro e w' ⟨A', c', rfl, hown, hx⟩
  rw [hlen, hcat] at hown
  rw [hlen]
  refine ⟨A', c', rfl, ?_, Bs.of_own hown (by intro b hb; rcases List.mem_append.1 hb with h | h; exact h1.rd.lt b h; exact h2.rd.lt b h), ((Ext.refl w).alloc _).trans hx⟩
  refine ⟨hown.1, ?_⟩
  rcases hown.2 with h0 | ⟨g, cap, cur, hv, hbg, hrest⟩
  ·exact .inl h0
  ·exact .inr ⟨g, cap, cur, hv, Nat.le_trans (by simp) hbg, hrest⟩
set_option maxHeartbeats 3200000 in
theorem seal_arg (a b c d e s : Int) (A : Option Addr) (n cp : Nat) (w : World) (hL : LaidF w) (h : roomN s = 0 ∨ mayB a b c d e = false) :
 Calls Tryz.prog 114 #[.agg #[.int .i64 a, .int .i64 b, .int .i64 c, .int .i64 d, .int .i64 e], .slice A n cp, .int .i64 s] w fun r w' => r = .returned (.tuple #[.slice none 0 0, .int .i64 2]) ∧ Ext w w' := by
 have hE := (Ext.refl w).alloc (.cells #[.int .i64 a, .int .i64 b, .int .i64 c, .int .i64 d, .int .i64 e] 44)
 have hT := heap_alloc_new w (.cells #[.int .i64 a, .int .i64 b, .int .i64 c, .int .i64 d, .int .i64 e] 44)
 have HL := Lib.hid hL
 have HE := Lib.hid hE
 obtain ⟨⟨i0, i1, i2, i3, i4⟩, _⟩ := five_cells hT
 clear hE hL hT
 by_cases h0 : roomN s = 0
 ·clear h
  go_enter Tryz.func114, Tryz.ntmps114
  go_wp2_with fail
  refine (room_any _ _).mono ?_
  rw [h0]
  rintro r w1 ⟨rfl, rfl⟩
  go_wp2_with fail
  go_ret2
  exact ⟨rfl, HE.out⟩
 ·have HM : Hid (mayB a b c d e = false) := Lib.hid (by rcases h with h | h; exact absurd h h0; exact h)
  have g0 : (((roomN s : Nat) : Int) == 0) = false := by simpa using h0
  clear h h0
  go_enter Tryz.func114, Tryz.ntmps114
  go_wp2_with fail
  refine (room_any _ _).mono ?_
  rintro r w1 ⟨rfl, rfl⟩
  generalize roomN s = R at *
  go_wp2_with fail
  refine (may_any _ _ _ _ _ _ (HL.out.ext HE.out).a.t).mono ?_
  rw [HM.out]
  rintro r w1 ⟨rfl, hx⟩
  have HE := Lib.hid (HE.out.trans hx)
  clear hx
  go_wp2_with fail
  go_ret2
  exact ⟨rfl, HE.out⟩
set_option maxHeartbeats 3200000 in
theorem seal_long (a b c d e s : Int) (A : Option Addr) (n cp : Nat) (w : World) (hL : LaidF w) (h0 : roomN s ≠ 0) (hm : mayB a b c d e = true) (hn : roomN s < n) :
 Calls Tryz.prog 114 #[.agg #[.int .i64 a, .int .i64 b, .int .i64 c, .int .i64 d, .int .i64 e], .slice A n cp, .int .i64 s] w fun r w' => r = .returned (.tuple #[.slice none 0 0, .int .i64 3]) ∧ Ext w w' := by
 have hE := (Ext.refl w).alloc (.cells #[.int .i64 a, .int .i64 b, .int .i64 c, .int .i64 d, .int .i64 e] 44)
 have hT := heap_alloc_new w (.cells #[.int .i64 a, .int .i64 b, .int .i64 c, .int .i64 d, .int .i64 e] 44)
 have HL := Lib.hid hL
 have HE := Lib.hid hE
 have HM := Lib.hid hm
 obtain ⟨⟨i0, i1, i2, i3, i4⟩, _⟩ := five_cells hT
 have g0 : (((roomN s : Nat) : Int) == 0) = false := by simpa using h0
 clear hE hL hT hm h0
 go_enter Tryz.func114, Tryz.ntmps114
 go_wp2_with fail
 refine (room_any _ _).mono ?_
 rintro r w1 ⟨rfl, rfl⟩
 generalize roomN s = R at *
 go_wp2_with fail
 refine (may_any _ _ _ _ _ _ (HL.out.ext HE.out).a.t).mono ?_
 rw [HM.out]
 rintro r w1 ⟨rfl, hx⟩
 have HE := Lib.hid (HE.out.trans hx)
 clear hx i0 i1 i2 i3 i4
 go_wp2_with fail
 go_ret2
 exact ⟨rfl, HE.out⟩
set_option maxHeartbeats 6400000 in
theorem seal_yes (a b c d e : Int) (S : Nat) (A : Option Addr) (n cp : Nat) (body : List Nat) (w : World) (hL : LaidF w) (hb : By w A n cp body) (h0 : roomN (S : Int) ≠ 0) (hm : mayB a b c d e = true) (hn : n ≤ roomN (S : Int)) :
 Calls Tryz.prog 114 #[.agg #[.int .i64 a, .int .i64 b, .int .i64 c, .int .i64 d, .int .i64 e], .slice A n cp, .int .i64 S] w fun r w' => ∃ A' c', r = .returned (.tuple #[.slice A' (64 * S) c', .int .i64 0]) ∧ By w' A' (64 * S) c' (frameL body (pl a b c d e) S) ∧ w'.ownsRow w.heap.size 5 1 (.slice A' (64 * S) c') (64 * S) (vb (frameL body (pl a b c d e) S)) ∧ Ext w w' := by
 obtain ⟨i0, hi, hz0, hz1, hz2⟩ := info_parts byte_info
 have hE := (Ext.refl w).alloc (.cells #[.int .i64 a, .int .i64 b, .int .i64 c, .int .i64 d, .int .i64 e] 44)
 have hT := heap_alloc_new w (.cells #[.int .i64 a, .int .i64 b, .int .i64 c, .int .i64 d, .int .i64 e] 44)
 have HL := Lib.hid hL
 have HE := Lib.hid hE
 have HM := Lib.hid hm
 have HB := Lib.hid hb
 have HT := Lib.hid hT
 obtain ⟨⟨j0, j1, j2, j3, j4⟩, _⟩ := five_cells hT
 have g0 : (((roomN (S : Int) : Nat) : Int) == 0) = false := by simpa using h0
 have hfit := room_fits hn (by omega)
 have h15 : (pl a b c d e).length = 15 := by rw [pl_yes hm, tagBytes_len]
 have hN : body.length = n := Bs.len hb
 have HN : Hid (body.length = n) := Lib.hid hN
 obtain ⟨m, hm4⟩ : ∃ m : Nat, m = 64 * S - 21 - n := ⟨_, rfl⟩
 have HH : Hid (digs 2 n ++ pl a b c d e ++ body ++ List.replicate m 0 = frameH body (pl a b c d e) S) := Lib.hid (by rw [← hN]; exact frame_split body _ S m (by rw [hN]; exact hm4))
 have HHl : Hid ((frameH body (pl a b c d e) S).length = 64 * S - 4) := Lib.hid (frameH_len h15 (by omega) (by omega))
 have hm5 : (S : Int) * 64 - 17 - (n : Int) - 4 = (m : Int) := by omega
 have hroomle := roomN_le (S : Int)
 have hmle : m ≤ 128 := by omega
 have HM4 : Hid (2 + 15 + n + m = 64 * S - 4 ∧ 64 * S - 4 + 4 = 64 * S) := Lib.hid (by omega)
 clear hE hL hT hm h0 hb hN hm4
 go_enter Tryz.func114, Tryz.ntmps114
 go_wp2_with fail
 refine (room_any _ _).mono ?_
 rintro r w1 ⟨rfl, rfl⟩
 generalize roomN (S : Int) = R at *
 go_wp2_with fail
 refine (may_any _ _ _ _ _ _ (HL.out.ext HE.out).a.t).mono ?_
 rw [HM.out]
 rintro r w1 ⟨rfl, hx⟩
 have HE := Lib.hid (HE.out.trans hx)
 have ht := (hx.block _ (Array.getElem?_eq_some_iff.1 HT.out).1).trans HT.out
 have HT := Lib.hid ht
 clear hx j0 j1 j2 j3 j4 ht
 go_wp2_with fail
 refine (put_by 2 n _ (HL.out.ext HE.out).a.o (fits_iff.2 ⟨rfl, by omega, by show n < 65536; omega⟩)).mono ?_
 rintro r w2 ⟨A2, c2, rfl, hb2, hx⟩
 have HB2 := Lib.hid hb2
 have HE := Lib.hid (HE.out.trans hx)
 have ht := (hx.block _ (Array.getElem?_eq_some_iff.1 HT.out).1).trans HT.out
 clear hx hb2
 obtain ⟨⟨j0, j1, j2, j3, j4⟩, _⟩ := five_cells ht
 clear ht
 go_wp2_with fail
 refine (print_any _ _ _ _ _ _ (HL.out.ext HE.out).a).mono ?_
 rw [h15]
 rintro r w3 ⟨A3, c3, rfl, hb3, hx⟩
 have HB3 := Lib.hid hb3
 have HB2 := Lib.hid (HB2.out.ext hx)
 have HE := Lib.hid (HE.out.trans hx)
 clear hx hb3 j0 j1 j2 j3 j4
 go_wp2_with (at_make; refine wpList_make_full _ rfl _ _ 45 rfl w3.heap.size 5 i0 (.int .u8 0) 1 Tryz.underlying45 hi hz0 hz1 .i64 .i64 _ _ m rfl rfl rfl rfl ?b1 ?b2 ?b3 ?_)
 case b1 => rw [hz2]; omega
 case b2 => unfold maxLen; omega
 case b3 => exact Nat.le_refl _
 intro w4 hown hg
 have HB4 : Hid (By w4 (some ⟨w3.heap.size, 0, none⟩) m m (List.replicate m 0)) := by
  have e : (madeCells #[Value.int .u8 0] m).toList = vb (List.replicate m 0) := by
   rw [toList_madeCells_one]
   simp [vb]
  rw [e] at hown
  exact Lib.hid (Bs.of_own hown (by intro b hb; rw [(List.mem_replicate.1 hb).2]; omega))
 have hx : Ext w3 w4 := (Below.refl w3.heap.size w3).grown hg (Nat.le_refl _) (by simp)
 have HB3 := Lib.hid (HB3.out.ext hx)
 have HB2 := Lib.hid (HB2.out.ext hx)
 have HE := Lib.hid (HE.out.trans hx)
 clear hx hown hg hm5
 go_wp2_with fail
 refine (join4_by _ HB2.out HB3.out (HB.out.ext HE.out) HB4.out (64 * S - 4) HM4.out.1 (by omega)).mono ?_
 rw [HH.out]
 rintro r w5 ⟨A5, c5, rfl, hb5, hx⟩
 have HB5 := Lib.hid hb5
 have HE := Lib.hid (HE.out.trans hx)
 clear hx hb5 HB2 HB3 HB4
 go_wp2_with fail
 refine (sum_by _ _ _ _ _ (HL.out.ext HE.out).h HB5.out).mono ?_
 rintro r w6 ⟨rfl, hx⟩
 have HB5 := Lib.hid (HB5.out.ext hx)
 have HE := Lib.hid (HE.out.trans hx)
 have hs : crcS (frameH body (pl a b c d e) S) < 4294967296 := crcE_lt _ _
 have HZ : Hid (frameH body (pl a b c d e) S ++ digs 4 (crcS (frameH body (pl a b c d e) S)) = frameL body (pl a b c d e) S) := Lib.hid rfl
 clear hx
 generalize crcS (frameH body (pl a b c d e) S) = z at *
 generalize frameH body (pl a b c d e) S = Hd at *
 go_wp2_with fail
 refine (put_by 4 z _ (HL.out.ext HE.out).a.o (fits_iff.2 ⟨rfl, by omega, by show z < 4294967296; omega⟩)).mono ?_
 rintro r w7 ⟨A7, c7, rfl, hb7, hx⟩
 have HB7 := Lib.hid hb7
 have HB5 := Lib.hid (HB5.out.ext hx)
 have HE := Lib.hid (HE.out.trans hx)
 clear hx hb7
 go_wp2_with fail
 refine (join2_own _ HB5.out HB7.out (by omega)).mono ?_
 rw [HZ.out, HM4.out.2]
 rintro r w8 ⟨A8, c8, rfl, ho8, hb8, hx⟩
 have HB8 := Lib.hid hb8
 have HO8 := Lib.hid ho8
 have HS7 := Lib.hid (Ext.size HE.out)
 have HE := Lib.hid (HE.out.trans hx)
 clear hx hb8 ho8
 go_wp2_with fail
 go_ret2
 refine ⟨A8, c8, rfl, HB8.out, ⟨HO8.out.1, ?_⟩, HE.out⟩
 rcases HO8.out.2 with h0 | ⟨g, cap, cur, hv, hbg, hrest⟩
 ·exact .inl h0
 ·exact .inr ⟨g, cap, cur, hv, Nat.le_trans HS7.out hbg, hrest⟩
theorem seal_own (a b c d e s : Int) (A : Option Addr) (n cp : Nat) (body : List Nat) (w : World) (hL : LaidF w) (hb : By w A n cp body) :
 Calls Tryz.prog 114 #[.agg #[.int .i64 a, .int .i64 b, .int .i64 c, .int .i64 d, .int .i64 e], .slice A n cp, .int .i64 s] w fun r w' => ∃ A' c', r = .returned (.tuple #[.slice A' (sealL a b c d e body s).length c', .int .i64 (sealE a b c d e n s)]) ∧ By w' A' (sealL a b c d e body s).length c' (sealL a b c d e body s) ∧ (sealE a b c d e n s = 0 → w'.ownsRow w.heap.size 5 1 (.slice A' (sealL a b c d e body s).length c') (sealL a b c d e body s).length (vb (sealL a b c d e body s))) ∧ Ext w w' := by
 have hlen : body.length = n := Bs.len hb
 by_cases h : roomN s = 0 ∨ mayB a b c d e = false
 ·have hE := sealE_arg (n := n) h
  rw [sealL_no (by rw [hlen, hE]; omega), hE]
  exact (seal_arg a b c d e s A n cp w hL h).mono fun _ w' ⟨h1, h2⟩ => ⟨none, 0, h1, By.nil_ w', (fun h => by cases h), h2⟩
 ·have h0 : roomN s ≠ 0 := fun hh => h (.inl hh)
  have hm : mayB a b c d e = true := by
   by_cases hm : mayB a b c d e = true
   ·exact hm
   ·exact absurd (.inr (by simpa using hm)) h
  by_cases hn : roomN s < n
  ·have hE := sealE_long h0 hm hn
   rw [sealL_no (by rw [hlen, hE]; omega), hE]
   exact (seal_long a b c d e s A n cp w hL h0 hm hn).mono fun _ w' ⟨h1, h2⟩ => ⟨none, 0, h1, By.nil_ w', (fun h => by cases h), h2⟩
  ·obtain ⟨S, rfl⟩ := Int.eq_ofNat_of_zero_le (show 0 ≤ s by have := roomN_pos (s := s) (by omega); omega)
   have hE := sealE_yes h0 hm (show n ≤ roomN (S : Int) by omega)
   have hfit := room_fits (show n ≤ roomN (S : Int) by omega) (by omega)
   rw [sealL_yes (by rw [hlen]; exact hE), hE, Int.toNat_natCast, frameL_len (by rw [pl_yes hm, tagBytes_len]) (by omega) (by omega)]
   exact (seal_yes a b c d e S A n cp body w hL hb h0 hm (by omega)).mono fun _ w' ⟨A', c', h1, h2, h3, h4⟩ => ⟨A', c', h1, h2, fun _ => h3, h4⟩
theorem seal_any (a b c d e s : Int) (A : Option Addr) (n cp : Nat) (body : List Nat) (w : World) (hL : LaidF w) (hb : By w A n cp body) :
 Calls Tryz.prog 114 #[.agg #[.int .i64 a, .int .i64 b, .int .i64 c, .int .i64 d, .int .i64 e], .slice A n cp, .int .i64 s] w fun r w' => ∃ A' c', r = .returned (.tuple #[.slice A' (sealL a b c d e body s).length c', .int .i64 (sealE a b c d e n s)]) ∧ By w' A' (sealL a b c d e body s).length c' (sealL a b c d e body s) ∧ Ext w w' :=
 (seal_own a b c d e s A n cp body w hL hb).mono fun _ _ ⟨A', c', h1, h2, _, h4⟩ => ⟨A', c', h1, h2, h4⟩
end
section
open Go Go.RowKit Go.ChangeShapes Go.WideShapes Go.Deep
def tab2 {H : Type} (k : IntKind) (rows : List (List Int)) : DataW H := .agg (rows.map fun r => .agg (r.map fun z => .lit (.int k z)))
theorem cells_of_tab2 {H : Type} {enc : TypeId × Value → H} {P : Program} {w : World} {base : Nat} {sp : Nat → Bool} {held : Bool} {fuel : Nat} {t e : TypeId} {n : Nat} {k : IntKind} {fs : Array Field} {cs : List Value} {rows : List (List Int)} {p : List MemPlace}
 (ht : P.underlying t = some (.array n e)) (he : P.underlying e = some (.struct fs)) (hone : oneCellFields P fs = true) (hC : P.cellsOf e = fs.size) (hk : ∀ (j : Nat) (f : Field), fs[j]? = some f → P.underlying f.type = some (.int k))
 (h : DataW.trod enc P w base sp held fuel t cs = some (tab2 k rows, p)) (i : Nat) (r : List Int) (hr : rows[i]? = some r) (j : Nat) (z : Int) (hz : r[j]? = some z) : cs[i * fs.size + j]? = some (.int k z) := by
 obtain ⟨xs, m, _, hx, _, hxl, hxi⟩ := DataW.trod_array ht h
 have hx1 : xs.map (·.1) = rows.map fun r => (.agg (r.map fun z => .lit (.int k z)) : DataW H) := by
  have := congrArg Prod.fst hx
  simp only [tab2, DataW.agg.injEq] at this
  exact this.symm
 have hin : i < n := by
  have h1 : i < rows.length := (List.getElem?_eq_some_iff.1 hr).1
  have h2 := congrArg List.length hx1
  simp at h2
  omega
 have hrow := hxi i hin
 obtain ⟨x, hxe⟩ : ∃ x, xs[i]? = some x := ⟨_, List.getElem?_eq_getElem (by omega)⟩
 have hx2 : x.1 = (.agg (r.map fun z => .lit (.int k z)) : DataW H) := by
  have := congrArg (·[i]?) hx1
  simpa [hxe, hr] using this
 rw [hxe, hC] at hrow
 obtain ⟨ys, m2, _, hy, _, hyl, hyf⟩ := DataW.trod_struct he hrow
 have hy1 : ys.map (·.1) = r.map fun z => (.lit (.int k z) : DataW H) := by
  have := congrArg Prod.fst hy
  rw [hx2] at this
  simp only [DataW.agg.injEq] at this
  exact this.symm
 have hjn : j < fs.size := by
  have h1 : j < r.length := (List.getElem?_eq_some_iff.1 hz).1
  have h2 := congrArg List.length hy1
  simp at h2
  omega
 have hf : fs[j]? = some fs[j] := Array.getElem?_eq_getElem hjn
 obtain ⟨ho, hc1⟩ := hone_of hone j fs[j] hf
 have hfj := hyf j fs[j] hf
 rw [ho, hc1] at hfj
 obtain ⟨y, hye⟩ : ∃ y, ys[j]? = some y := ⟨_, List.getElem?_eq_getElem (by omega)⟩
 rw [hye] at hfj
 obtain ⟨z', hcs, hyz, _⟩ := DataW.trod_int (hk j fs[j] hf) hfj
 have hz' : z' = z := by
  have := congrArg (·[j]?) hy1
  simpa [hye, hyz, hz] using this
 subst hz'
 have := congrArg (·[0]?) hcs
 simp [List.getElem?_drop, hjn] at this
 exact this
theorem tab2_of_head {P : Program} {W : World} {name : String} {k : IntKind} {rows : List (List Int)} {rest : List (String × DataW Unit)} {g : Nat} {t e : TypeId} {n : Nat} {fs : Array Field}
 (hg : P.globalNamed name = some g) (hty : (P.globals[g]?).map (·.type) = some t) (ht : P.underlying t = some (.array n e)) (he : P.underlying e = some (.struct fs)) (hone : oneCellFields P fs = true) (hC : P.cellsOf e = fs.size) (hk : ∀ (j : Nat) (f : Field), fs[j]? = some f → P.underlying f.type = some (.int k))
 (h : laidMet P ((name, tab2 k rows) :: rest) W) (i : Nat) (r : List Int) (hr : rows[i]? = some r) (j : Nat) (z : Int) (hz : r[j]? = some z) : W.cell? ⟨g, i * fs.size + j, none⟩ = some (.int k z) := by
 obtain ⟨ps, ⟨g', t', cs, fuel, p, q, hg', ht', hvar, hd, _, _⟩, _⟩ := h
 obtain rfl := Option.some.inj (hg.symm.trans hg')
 obtain rfl := Option.some.inj (hty.symm.trans ht')
 have hc := cells_of_tab2 ht he hone hC hk hd i r hr j z hz
 exact (World.var?_cell hg hvar (i * fs.size + j)).trans (by simpa using hc)
end
section
open Go Go.ChangeShapes Go.WideShapes Go.ChangeAt Go.WideMaps Go.WideElems Go.RowKit Go.Deep
theorem laid_o {W : World} {rest : List (String × DataW Unit)} (h : laidMet Tryz.prog (("sexton/octet.bounds", Rows.laid_sexton_octet_bounds) :: rest) W) : Laid W := by
 have hg : Tryz.prog.globalNamed "sexton/octet.bounds" = some 4 := by kernel_rfl
 have ht : (Tryz.prog.globals[4]?).map (·.type) = some 328 := by kernel_rfl
 have hv : W.var? Tryz.prog "sexton/octet.bounds" = some (([0, 256, 65536, 0, 4294967296, 0, 281474976710656] : List Int).map fun z => Value.int .i64 z).toArray :=
  Lib.tabIs_of_head hg ht Tryz.underlying328 Tryz.underlying3 (by kernel_rfl) (by kernel_rfl) h
 have hc := fun i => World.var?_cell hg hv i
 exact ⟨hc 0, hc 1, hc 2, hc 3, hc 4, hc 5, hc 6⟩
theorem laid_t {W : World} {rest : List (String × DataW Unit)} (h : laidMet Tryz.prog (("sexton/tag.regions", Rows.laid_sexton_tag_regions) :: rest) W) : LaidT W := by
 have hg : Tryz.prog.globalNamed "sexton/tag.regions" = some 2 := by kernel_rfl
 have ht : (Tryz.prog.globals[2]?).map (·.type) = some 292 := by kernel_rfl
 have hc := tab2_of_head (k := .i64) (rows := [[0, 0], [2, 1], [2, 1], [24, 1], [48, 2], [16, 2]]) hg ht Tryz.underlying292 Tryz.underlying246 (by kernel_rfl) (by kernel_rfl)
  (fun j f hf => by
   match j, hf with
   | 0, hf => injection hf with hf; subst hf; exact Tryz.underlying3
   | 1, hf => injection hf with hf; subst hf; exact Tryz.underlying3
   | (j + 2), hf => simp at hf) h
 have row : ∀ (i : Nat) (a b : Int), ([[0, 0], [2, 1], [2, 1], [24, 1], [48, 2], [16, 2]] : List (List Int))[i]? = some [a, b] → W.cell? ⟨2, i * 2, none⟩ = some (.int .i64 a) ∧ W.cell? ⟨2, i * 2 + 1, none⟩ = some (.int .i64 b) := fun i a b hi => ⟨hc i [a, b] hi 0 a rfl, hc i [a, b] hi 1 b rfl⟩
 intro r hr
 have hj' : r = 0 ∨ r = 1 ∨ r = 2 ∨ r = 3 ∨ r = 4 ∨ r = 5 := by omega
 rcases hj' with rfl | rfl | rfl | rfl | rfl | rfl
 ·exact row 0 0 0 rfl
 ·exact row 1 2 1 rfl
 ·exact row 2 2 1 rfl
 ·exact row 3 24 1 rfl
 ·exact row 4 48 2 rfl
 ·exact row 5 16 2 rfl
theorem laid_w {W : World} {rest : List (String × DataW Unit)} (h : laidMet Tryz.prog (("sexton/tag.widths", Rows.laid_sexton_tag_widths) :: rest) W) : LaidW W := by
 have hg : Tryz.prog.globalNamed "sexton/tag.widths" = some 3 := by kernel_rfl
 have ht : (Tryz.prog.globals[3]?).map (·.type) = some 309 := by kernel_rfl
 have hv : W.var? Tryz.prog "sexton/tag.widths" = some (([1, 1, 1, 6, 6] : List Int).map fun z => Value.int .i64 z).toArray :=
  Lib.tabIs_of_head hg ht Tryz.underlying309 Tryz.underlying3 (by kernel_rfl) (by kernel_rfl) h
 have hc := fun i => World.var?_cell hg hv i
 intro k hk
 have hj' : k = 0 ∨ k = 1 ∨ k = 2 ∨ k = 3 ∨ k = 4 := by omega
 rcases hj' with rfl | rfl | rfl | rfl | rfl
 ·exact hc 0
 ·exact hc 1
 ·exact hc 2
 ·exact hc 3
 ·exact hc 4
theorem laid_h {W : World} {rest : List (String × DataW Unit)} (h : laidMet Tryz.prog (("sexton/crc.halves", Rows.laid_sexton_crc_halves) :: rest) W) : LaidH W := by
 have hg : Tryz.prog.globalNamed "sexton/crc.halves" = some 5 := by kernel_rfl
 have ht : (Tryz.prog.globals[5]?).map (·.type) = some 335 := by kernel_rfl
 have hv : W.var? Tryz.prog "sexton/crc.halves" = some (([0, 274646895, 549293790, 820201905, 1098587580, 1361435347, 1640403810, 1905808397, 2197175160, 2460548119, 2722870694, 2987750089, 3280807620, 3553878443, 3811616794, 4084100981] : List Int).map fun z => Value.int .u32 z).toArray :=
  Lib.tabIs_of_head hg ht Tryz.underlying335 Tryz.underlying199 (by kernel_rfl) (by kernel_rfl) h
 have hc := fun i => World.var?_cell hg hv i
 intro i hi
 have e : ∀ j, j < 16 → ((([0, 274646895, 549293790, 820201905, 1098587580, 1361435347, 1640403810, 1905808397, 2197175160, 2460548119, 2722870694, 2987750089, 3280807620, 3553878443, 3811616794, 4084100981] : List Int).map fun z => Value.int .u32 z).toArray)[j]? = some (.int .u32 ((stps 4 j : Nat) : Int)) := by
  intro j hj
  have hj' : j = 0 ∨ j = 1 ∨ j = 2 ∨ j = 3 ∨ j = 4 ∨ j = 5 ∨ j = 6 ∨ j = 7 ∨ j = 8 ∨ j = 9 ∨ j = 10 ∨ j = 11 ∨ j = 12 ∨ j = 13 ∨ j = 14 ∨ j = 15 := by omega
  rcases hj' with rfl | rfl | rfl | rfl | rfl | rfl | rfl | rfl | rfl | rfl | rfl | rfl | rfl | rfl | rfl | rfl <;> rfl
 exact (hc i).trans (e i hi)
end
section
open Go
theorem room_le_of {l : List Nat} (hs : l.length = 64 ∨ l.length = 128) (h : bodyN l ≤ roomN ((l.length / 64 : Nat) : Int)) : bodyN l + 21 ≤ l.length ∧ l.length / 64 * 64 = l.length := by
 rcases hs with h64 | h64
 ·rw [h64] at h ⊢
  rw [show roomN ((64 / 64 : Nat) : Int) = 43 from rfl] at h
  omega
 ·rw [h64] at h ⊢
  rw [show roomN ((128 / 64 : Nat) : Int) = 88 from rfl] at h
  omega
end
section
open Go Go.RowKit
theorem By.sub {w : World} {g o n c : Nat} {l : List Nat} (h : By w (some ⟨g, o, none⟩) n c l) (i k c' : Nat) (hk : i + k ≤ n) (hc : k ≤ c') (hm : c' ≤ 9223372036854775807) : By w (some ⟨g, o + i, none⟩) k c' ((l.drop i).take k) :=
 ⟨by rw [List.length_take, List.length_drop, h.len]; omega, hc, hm, (h.rd.drop rfl i).take k, fun hh => by cases hh⟩
def okB (l : List Nat) : Bool := PV (tagOf l) && decide (17 + bodyN l ≤ l.length)
def qf (l : List Nat) (k : Nat) : Nat := if okB l = true then pf (tagOf l) k else 0
def ql (l : List Nat) : List Nat := if okB l = true then bodyOf l else []
theorem qf_yes {l : List Nat} (h : okB l = true) (k : Nat) : qf l k = pf (tagOf l) k := by unfold qf; rw [if_pos h]
theorem qf_no {l : List Nat} (h : okB l = false) (k : Nat) : qf l k = 0 := by unfold qf; rw [if_neg (by rw [h]; simp)]
theorem ql_yes {l : List Nat} (h : okB l = true) : ql l = bodyOf l := by unfold ql; rw [if_pos h]
theorem ql_no {l : List Nat} (h : okB l = false) : ql l = [] := by unfold ql; rw [if_neg (by rw [h]; simp)]
theorem okB_PV {l : List Nat} (h : PV (tagOf l) = false) : okB l = false := by unfold okB; rw [h]; rfl
theorem okB_long {l : List Nat} (h : l.length < 17 + bodyN l) : okB l = false := by
 unfold okB
 rw [decide_eq_false (by omega), Bool.and_false]
theorem okB_yes {l : List Nat} (hp : PV (tagOf l) = true) (h : 17 + bodyN l ≤ l.length) : okB l = true := by
 unfold okB
 rw [hp, decide_eq_true h]
 rfl
def stN (l : List Nat) : Nat := if szB l = true then (if zeroB l = true then 0 else if goodB l = true then 1 else 2) else 2
def ofl (l : List Nat) (k : Nat) : Nat := if goodB l = true then pf (tagOf l) k else 0
def obl (l : List Nat) : List Nat := if goodB l = true then bodyOf l else []
theorem ofl_yes {l : List Nat} (h : goodB l = true) (k : Nat) : ofl l k = pf (tagOf l) k := by unfold ofl; rw [if_pos h]
theorem ofl_no {l : List Nat} (h : goodB l = false) (k : Nat) : ofl l k = 0 := by unfold ofl; rw [if_neg (by rw [h]; simp)]
theorem obl_yes {l : List Nat} (h : goodB l = true) : obl l = bodyOf l := by unfold obl; rw [if_pos h]
theorem obl_no {l : List Nat} (h : goodB l = false) : obl l = [] := by unfold obl; rw [if_neg (by rw [h]; simp)]
theorem good_sz {l : List Nat} (h : goodB l = true) : szB l = true := by
 unfold goodB at h
 simp only [Bool.and_eq_true] at h
 exact h.1.1.1
theorem szB_iff {l : List Nat} : szB l = true ↔ l.length = 64 ∨ l.length = 128 := by
 unfold szB
 simp
theorem stN_good {l : List Nat} (h : goodB l = true) : stN l = 1 := by
 unfold stN
 rw [if_pos (good_sz h), if_neg (by rw [good_not_zero h]; simp), if_pos h]
theorem stN_blank {l : List Nat} (hs : szB l = true) (h : zeroB l = true) : stN l = 0 := by unfold stN; rw [if_pos hs, if_pos h]
theorem stN_size {l : List Nat} (h : szB l = false) : stN l = 2 := by unfold stN; rw [if_neg (by rw [h]; simp)]
theorem stN_bad {l : List Nat} (hz : zeroB l = false) (h : goodB l = false) : stN l = 2 := by
 unfold stN
 rw [if_neg (show ¬ zeroB l = true by rw [hz]; simp), if_neg (show ¬ goodB l = true by rw [h]; simp)]
 split <;> rfl
theorem size_bad {l : List Nat} (h : szB l = false) : goodB l = false := by
 unfold goodB
 rw [h]
 rfl
theorem zero_bad {l : List Nat} (h : zeroB l = true) : goodB l = false := by
 by_cases hg : goodB l = true
 ·rw [good_not_zero hg] at h; cases h
 ·simpa using hg
theorem stN_one {l : List Nat} : stN l = 1 ↔ goodB l = true := by
 constructor
 ·intro h
  by_cases hg : goodB l = true
  ·exact hg
  ·have hg' : goodB l = false := by simpa using hg
   unfold stN at h
   rw [if_neg hg] at h
   split at h
   ·split at h <;> cases h
   ·cases h
 ·exact stN_good
theorem room_ws {l : List Nat} (h : szB l = false) : roomN ((wsN l.length : Nat) : Int) = 0 := by
 have hs : ¬ (l.length = 64 ∨ l.length = 128) := fun hh => by rw [szB_iff.2 hh] at h; cases h
 unfold wsN
 by_cases hm : l.length % 64 = 0
 ·rw [if_pos hm]
  exact roomN_no (by omega) (by omega)
 ·rw [if_neg hm]
  exact roomN_no (by omega) (by omega)
theorem ws_div {l : List Nat} (h : szB l = true) : wsN l.length = l.length / 64 := by
 unfold wsN
 rw [szB_iff] at h
 rw [if_pos (by omega)]
theorem room_pos {l : List Nat} (h : szB l = true) : roomN ((l.length / 64 : Nat) : Int) ≠ 0 := by
 rw [szB_iff] at h
 rcases h with h | h
 ·rw [h]; decide
 ·rw [h]; decide
theorem good_okB {l : List Nat} (h : goodB l = true) : okB l = true := by
 obtain ⟨hs, hp, hn, _⟩ := good_parts h
 have := room_le_of hs hn
 exact okB_yes hp (by omega)
theorem may_pf {l : List Nat} (h : PV l = true) : mayB (pf l 0) (pf l 1) (pf l 2) (pf l 3) (pf l 4) = true := by
 rw [pf_yes h, pf_yes h, pf_yes h, pf_yes h, pf_yes h]
 unfold PV at h
 simp only [Bool.and_eq_true] at h
 exact h.2
theorem tagOf_lt {l : List Nat} (hl : ∀ b ∈ l, b < 256) : ∀ b ∈ tagOf l, b < 256 := fun x hx => hl x (List.mem_of_mem_drop (List.mem_of_mem_take hx))
theorem bodyOf_len {l : List Nat} (h : 17 + bodyN l ≤ l.length) : (bodyOf l).length = bodyN l := by unfold bodyOf; rw [List.length_take, List.length_drop]; omega
theorem okB_parts {l : List Nat} (h : okB l = true) : PV (tagOf l) = true ∧ 17 + bodyN l ≤ l.length := by
 unfold okB at h
 simpa using h
def reE (l : List Nat) : Int := sealE (qf l 0) (qf l 1) (qf l 2) (qf l 3) (qf l 4) (ql l).length ((l.length / 64 : Nat) : Int)
def reL (l : List Nat) : List Nat := sealL (qf l 0) (qf l 1) (qf l 2) (qf l 3) (qf l 4) (ql l) ((l.length / 64 : Nat) : Int)
theorem re_no {l : List Nat} (hs : szB l = true) (h : reE l ≠ 0) : goodB l = false := by
 by_cases hg : goodB l = true
 ·refine absurd ?_ h
  have ho := good_okB hg
  obtain ⟨hp, hn⟩ := okB_parts ho
  unfold reE
  rw [qf_yes ho, qf_yes ho, qf_yes ho, qf_yes ho, qf_yes ho, ql_yes ho]
  exact sealE_yes (room_pos hs) (may_pf hp) (by rw [bodyOf_len hn]; exact (good_parts hg).2.2.1)
 ·simpa using hg
theorem re_yes {l : List Nat} (hs : szB l = true) (hl : ∀ b ∈ l, b < 256) (h : reE l = 0) : goodB l = decide (reL l = l) := by
 have hr := room_pos hs
 by_cases ho : okB l = true
 ·obtain ⟨hp, hn⟩ := okB_parts ho
  unfold reE at h
  rw [qf_yes ho, qf_yes ho, qf_yes ho, qf_yes ho, qf_yes ho, ql_yes ho, bodyOf_len hn] at h
  have hroom : bodyN l ≤ roomN ((l.length / 64 : Nat) : Int) := by
   rcases Nat.lt_or_ge (roomN ((l.length / 64 : Nat) : Int)) (bodyN l) with h1 | h1
   ·rw [sealE_long hr (may_pf hp) h1] at h; cases h
   ·exact h1
  have hL : reL l = frameL (bodyOf l) (tagOf l) (l.length / 64) := by
   unfold reL
   rw [qf_yes ho, qf_yes ho, qf_yes ho, qf_yes ho, qf_yes ho, ql_yes ho, sealL_yes (by rw [bodyOf_len hn]; exact h), (pl_of hp (tagOf_lt hl)).1, Int.toNat_natCast]
  rw [hL]
  unfold goodB
  rw [hs, hp, decide_eq_true hroom, Bool.true_and, Bool.true_and, Bool.true_and]
  by_cases he : l = frameL (bodyOf l) (tagOf l) (l.length / 64)
  ·rw [decide_eq_true he, decide_eq_true he.symm]
  ·rw [decide_eq_false he, decide_eq_false fun hh => he hh.symm]
 ·have ho' : okB l = false := by simpa using ho
  unfold reE at h
  rw [qf_no ho', qf_no ho', qf_no ho', qf_no ho', qf_no ho', sealE_arg (.inr (by decide))] at h
  cases h
end
section
open Go Go.RowKit
theorem five_far {w : World} {g h k : Nat} (hne : g ≠ h) (x0 x1 x2 x3 x4 : Value) :
 (((((w.setCell ⟨g, 0, none⟩ x0).setCell ⟨g, 1, none⟩ x1).setCell ⟨g, 2, none⟩ x2).setCell ⟨g, 3, none⟩ x3).setCell ⟨g, 4, none⟩ x4).cell? ⟨h, k, none⟩ = w.cell? ⟨h, k, none⟩ := by
 rw [World.cell?_setCell_far _ ⟨g, 4, none⟩ ⟨h, k, none⟩ _ hne, World.cell?_setCell_far _ ⟨g, 3, none⟩ ⟨h, k, none⟩ _ hne, World.cell?_setCell_far _ ⟨g, 2, none⟩ ⟨h, k, none⟩ _ hne, World.cell?_setCell_far _ ⟨g, 1, none⟩ ⟨h, k, none⟩ _ hne, World.cell?_setCell_far _ ⟨g, 0, none⟩ ⟨h, k, none⟩ _ hne]
theorem five_far_drew {w : World} {g h k : Nat} {v : Value} (hne : g ≠ h) (hc : w.cell? ⟨h, k, none⟩ = some v) (x0 x1 x2 x3 x4 : Value) :
 (((((w.setCell ⟨g, 0, none⟩ x0).setCell ⟨g, 1, none⟩ x1).setCell ⟨g, 2, none⟩ x2).setCell ⟨g, 3, none⟩ x3).setCell ⟨g, 4, none⟩ x4).drew.cell? ⟨h, k, none⟩ = some v := by
 have e : ∀ W : World, W.drew.cell? ⟨h, k, none⟩ = W.cell? ⟨h, k, none⟩ := fun _ => rfl
 rw [e, five_far hne]
 exact hc
theorem row_step {w : World} {g t : Nat} {fr : Nat × Nat} {cs cs' : Array Value} (i : Nat) (h : w.heap[g]? = some (.cells cs t fr)) (x : Value) (e : cs.setIfInBounds i x = cs') : (w.setCell ⟨g, i, none⟩ x).heap[g]? = some (.cells cs' t fr) := by
 subst e
 rw [setCell_eq_setRow w g i cs t fr x h]
 exact setRow_heap w g _ _ _ _ h
theorem five_row {w : World} {g t : Nat} {y0 y1 y2 y3 y4 : Value} (h : w.heap[g]? = some (.cells #[y0, y1, y2, y3, y4] t (0, 0))) (x0 x1 x2 x3 x4 : Value) :
 (((((w.setCell ⟨g, 0, none⟩ x0).setCell ⟨g, 1, none⟩ x1).setCell ⟨g, 2, none⟩ x2).setCell ⟨g, 3, none⟩ x3).setCell ⟨g, 4, none⟩ x4).heap[g]? = some (.cells #[x0, x1, x2, x3, x4] t (0, 0)) := by
 exact row_step 4 (row_step 3 (row_step 2 (row_step 1 (row_step 0 h x0 rfl) x1 rfl) x2 rfl) x3 rfl) x4 rfl
theorem five_near_drew {w : World} {g : Nat} {y0 y1 y2 y3 y4 : Value} (h : w.heap[g]? = some (.cells #[y0, y1, y2, y3, y4] 44 (0, 0))) (x0 x1 x2 x3 x4 : Value) :
 (((((w.setCell ⟨g, 0, none⟩ x0).setCell ⟨g, 1, none⟩ x1).setCell ⟨g, 2, none⟩ x2).setCell ⟨g, 3, none⟩ x3).setCell ⟨g, 4, none⟩ x4).drew.cell? ⟨g, 0, none⟩ = some x0 ∧
 (((((w.setCell ⟨g, 0, none⟩ x0).setCell ⟨g, 1, none⟩ x1).setCell ⟨g, 2, none⟩ x2).setCell ⟨g, 3, none⟩ x3).setCell ⟨g, 4, none⟩ x4).drew.cell? ⟨g, 1, none⟩ = some x1 ∧
 (((((w.setCell ⟨g, 0, none⟩ x0).setCell ⟨g, 1, none⟩ x1).setCell ⟨g, 2, none⟩ x2).setCell ⟨g, 3, none⟩ x3).setCell ⟨g, 4, none⟩ x4).drew.cell? ⟨g, 2, none⟩ = some x2 ∧
 (((((w.setCell ⟨g, 0, none⟩ x0).setCell ⟨g, 1, none⟩ x1).setCell ⟨g, 2, none⟩ x2).setCell ⟨g, 3, none⟩ x3).setCell ⟨g, 4, none⟩ x4).drew.cell? ⟨g, 3, none⟩ = some x3 ∧
 (((((w.setCell ⟨g, 0, none⟩ x0).setCell ⟨g, 1, none⟩ x1).setCell ⟨g, 2, none⟩ x2).setCell ⟨g, 3, none⟩ x3).setCell ⟨g, 4, none⟩ x4).drew.cell? ⟨g, 4, none⟩ = some x4 := by
 have e : ∀ (W : World) k, W.drew.cell? ⟨g, k, none⟩ = W.cell? ⟨g, k, none⟩ := fun _ _ => rfl
 rw [e, e, e, e, e]
 exact (five_cells (five_row h x0 x1 x2 x3 x4)).1
theorem set_block {w : World} {g h k : Nat} {x : Value} {o : Obj} (hne : g ≠ h) (hh : w.heap[h]? = some o) (hg : ∃ cs t fr, w.heap[g]? = some (.cells cs t fr)) : (w.setCell ⟨g, k, none⟩ x).heap[h]? = some o := by
 obtain ⟨cs, t, fr, hr⟩ := hg
 rw [setCell_eq_setRow w g k cs t fr x hr]
 exact (setRow_other w _ _ _ (fun e => hne e.symm)).trans hh
theorem five_block {w : World} {g h t : Nat} {y0 y1 y2 y3 y4 : Value} {o : Obj} (hne : g ≠ h) (hg : w.heap[g]? = some (.cells #[y0, y1, y2, y3, y4] t (0, 0))) (hh : w.heap[h]? = some o) (x0 x1 x2 x3 x4 : Value) :
 (((((w.setCell ⟨g, 0, none⟩ x0).setCell ⟨g, 1, none⟩ x1).setCell ⟨g, 2, none⟩ x2).setCell ⟨g, 3, none⟩ x3).setCell ⟨g, 4, none⟩ x4).heap[h]? = some o := by
 have step : ∀ (W : World) (k : Nat) (x : Value), (∃ cs t fr, W.heap[g]? = some (.cells cs t fr)) → W.heap[h]? = some o → (∃ cs t fr, (W.setCell ⟨g, k, none⟩ x).heap[g]? = some (.cells cs t fr)) ∧ (W.setCell ⟨g, k, none⟩ x).heap[h]? = some o := by
  intro W k x hr hW
  refine ⟨?_, set_block hne hW hr⟩
  obtain ⟨cs, t, fr, hr⟩ := hr
  rw [setCell_eq_setRow W g k cs t fr x hr]
  exact ⟨_, _, _, setRow_heap W _ _ _ _ _ hr⟩
 obtain ⟨a0, b0⟩ := step w 0 x0 ⟨_, _, _, hg⟩ hh
 obtain ⟨a1, b1⟩ := step _ 1 x1 a0 b0
 obtain ⟨a2, b2⟩ := step _ 2 x2 a1 b1
 obtain ⟨a3, b3⟩ := step _ 3 x3 a2 b2
 exact (step _ 4 x4 a3 b3).2
end
end Go.Proofs.YtmpaocpgoihliaaGreatDoor

/-
  The contract of the frame's Seal.
-/
import Derived.Test.YtmbmpabjclkhlaaGreatDoorQ00
import Derived.Test.YtmbmpabjclkhlaaGreatDoorQ02
import Derived.Test.YtmbmpabjclkhlaaGreatDoorQ06
import Derived.Test.YtmbmpabjclkhlaaGreatDoorQ07
import Derived.OwnWalk
import Derived.LaidMore
import Derived.Lib.LaidTab
import Derived.Stop.LaidErr
import Derived.Deep.Fields
import Derived.OpenShut
import Derived.ProofKit
import Derived.Test.YtmbmpabjclkhlaaGreatDoorRows
import Derived.Stop.Joined
import Derived.Laws.IdiomStrings
import Derived.Laws.BytesString
namespace Go.Proofs.YtmbmpabjclkhlaaGreatDoor
set_option maxRecDepth 100000
section
open Go Go.RowKit
structure LaidF (w : World) : Prop where
  a : LaidA w
  h : LaidH w
theorem LaidF.ext {a b : World} (h : LaidF a) (k : Ext a b) : LaidF b := ⟨h.a.ext k, fun i hi => Ext.cell k (h.h i hi)⟩
def sealE (a b c d e : Int) (n : Nat) (s : Int) : Int := if roomN s = 0 ∨ mayB a b c d e = false then 2 else if roomN s < n then 3 else 0
def sealL (a b c d e : Int) (body : List Nat) (s : Int) : List Nat := if sealE a b c d e body.length s = 0 then frameL body (pl a b c d e) s.toNat else []
theorem sealE_arg {a b c d e s : Int} {n : Nat} (h : roomN s = 0 ∨ mayB a b c d e = false) : sealE a b c d e n s = 2 := by unfold sealE; rw [if_pos h]
theorem sealE_long {a b c d e s : Int} {n : Nat} (h : roomN s ≠ 0) (hm : mayB a b c d e = true) (hn : roomN s < n) : sealE a b c d e n s = 3 := by unfold sealE; rw [if_neg (by rw [hm]; simpa using h), if_pos hn]
theorem sealE_yes {a b c d e s : Int} {n : Nat} (h : roomN s ≠ 0) (hm : mayB a b c d e = true) (hn : n ≤ roomN s) : sealE a b c d e n s = 0 := by unfold sealE; rw [if_neg (by rw [hm]; simpa using h), if_neg (by omega)]
theorem sealL_no {a b c d e s : Int} {body : List Nat} (h : sealE a b c d e body.length s ≠ 0) : sealL a b c d e body s = [] := by unfold sealL; rw [if_neg h]
theorem sealL_yes {a b c d e s : Int} {body : List Nat} (h : sealE a b c d e body.length s = 0) : sealL a b c d e body s = frameL body (pl a b c d e) s.toNat := by unfold sealL; rw [if_pos h]
theorem frame_split (body own : List Nat) (S m : Nat) (hm : m = 64 * S - 21 - body.length) : digs 2 body.length ++ own ++ body ++ List.replicate m 0 = frameH body own S := by subst hm; rfl
theorem sum_by (A : Option Addr) (l : List Nat) (n c : Nat) (w : World) (hL : LaidH w) (hb : By w A n c l) :
    Calls Tryz.prog 225 #[.slice A n c] w fun e w' => e = .returned (.int .u32 ((crcS l : Nat) : Int)) ∧ Ext w w' :=
  (sum_any A l n c _ w hL hb.len hb.rd (by have := hb.cap; have := hb.most; unfold maxLen; omega)).mono fun _ _ ⟨h, hw⟩ => ⟨h, by subst hw; exact Ext.refl _⟩
theorem join4_by {A1 A2 A3 A4 : Option Addr} {n1 n2 n3 n4 c1 c2 c3 c4 : Nat} {l1 l2 l3 l4 : List Nat} (w : World) (h1 : By w A1 n1 c1 l1) (h2 : By w A2 n2 c2 l2) (h3 : By w A3 n3 c3 l3) (h4 : By w A4 n4 c4 l4) (N : Nat) (hN : n1 + n2 + n3 + n4 = N) (hN2 : N ≤ 140737488355328) :
    Calls Tryz.prog 139 #[.slice (some ⟨w.heap.size, 0, none⟩) 4 4] (w.alloc (.cells #[.slice A1 n1 c1, .slice A2 n2 c2, .slice A3 n3 c3, .slice A4 n4 c4] 45)) fun e w' => ∃ A' c', e = .returned (.slice A' N c') ∧ By w' A' N c' (l1 ++ l2 ++ l3 ++ l4) ∧ Ext w w' := by
  have hcat : cat [(.slice A1 n1 c1, l1), (.slice A2 n2 c2, l2), (.slice A3 n3 c3, l3), (.slice A4 n4 c4, l4)] = l1 ++ l2 ++ l3 ++ l4 := by simp [cat]
  rw [← hcat]
  refine join_by _ 4 N w _ rfl rfl ?_ (by rw [hcat, List.length_append, List.length_append, List.length_append, h1.len, h2.len, h3.len, h4.len]; exact hN) ?_ (by omega) hN2
  · intro p hp
    simp only [List.mem_cons, List.not_mem_nil, or_false] at hp
    rcases hp with rfl | rfl | rfl | rfl
    · exact ⟨_, _, _, rfl, h1⟩
    · exact ⟨_, _, _, rfl, h2⟩
    · exact ⟨_, _, _, rfl, h3⟩
    · exact ⟨_, _, _, rfl, h4⟩
  · rw [hcat]
    intro b hb
    simp only [List.mem_append] at hb
    rcases hb with ((h | h) | h) | h
    · exact h1.rd.lt b h
    · exact h2.rd.lt b h
    · exact h3.rd.lt b h
    · exact h4.rd.lt b h
theorem join2_own {A1 A2 : Option Addr} {n1 n2 c1 c2 : Nat} {l1 l2 : List Nat} (w : World) (h1 : By w A1 n1 c1 l1) (h2 : By w A2 n2 c2 l2) (hN : n1 + n2 ≤ 140737488355328) :
    Calls Tryz.prog 139 #[.slice (some ⟨w.heap.size, 0, none⟩) 2 2] (w.alloc (.cells #[.slice A1 n1 c1, .slice A2 n2 c2] 45)) fun e w' => ∃ A' c', e = .returned (.slice A' (n1 + n2) c') ∧ w'.ownsRow w.heap.size 5 1 (.slice A' (n1 + n2) c') (n1 + n2) (vb (l1 ++ l2)) ∧ By w' A' (n1 + n2) c' (l1 ++ l2) ∧ Ext w w' := by
  have hcat : cat [(.slice A1 n1 c1, l1), (.slice A2 n2 c2, l2)] = l1 ++ l2 := by simp [cat]
  have hlen : (cat [(Value.slice A1 n1 c1, l1), (Value.slice A2 n2 c2, l2)]).length = n1 + n2 := by rw [hcat, List.length_append, h1.len, h2.len]
  refine (join_any _ 2 2 [(.slice A1 n1 c1, l1), (.slice A2 n2 c2, l2)] _ (parts_lit rfl rfl ?_) (by omega) (by rw [hlen]; omega)).mono ?_
  · intro p hp
    simp only [List.mem_cons, List.not_mem_nil, or_false] at hp
    rcases hp with rfl | rfl
    · exact ⟨_, _, _, rfl, h1⟩
    · exact ⟨_, _, _, rfl, h2⟩
  · rintro e w' ⟨A', c', rfl, hown, hx⟩
    rw [hlen, hcat] at hown
    rw [hlen]
    refine ⟨A', c', rfl, ?_, Bs.of_own hown (by intro b hb; rcases List.mem_append.1 hb with h | h; exact h1.rd.lt b h; exact h2.rd.lt b h), ((Ext.refl w).alloc _).trans hx⟩
    refine ⟨hown.1, ?_⟩
    rcases hown.2 with h0 | ⟨g, cap, cur, hv, hbg, hrest⟩
    · exact .inl h0
    · exact .inr ⟨g, cap, cur, hv, Nat.le_trans (by simp) hbg, hrest⟩
set_option maxHeartbeats 3200000 in
theorem seal_arg (a b c d e s : Int) (A : Option Addr) (n cp : Nat) (w : World) (hL : LaidF w) (h : roomN s = 0 ∨ mayB a b c d e = false) :
    Calls Tryz.prog 150 #[.agg #[.int .i64 a, .int .i64 b, .int .i64 c, .int .i64 d, .int .i64 e], .slice A n cp, .int .i64 s] w fun r w' => r = .returned (.tuple #[.slice none 0 0, .int .i64 2]) ∧ Ext w w' := by
  have hE := (Ext.refl w).alloc (.cells #[.int .i64 a, .int .i64 b, .int .i64 c, .int .i64 d, .int .i64 e] 44)
  have hT := heap_alloc_new w (.cells #[.int .i64 a, .int .i64 b, .int .i64 c, .int .i64 d, .int .i64 e] 44)
  have HL := Lib.hid hL
  have HE := Lib.hid hE
  obtain ⟨⟨i0, i1, i2, i3, i4⟩, _⟩ := five_cells hT
  clear hE hL hT
  by_cases h0 : roomN s = 0
  · clear h
    go_enter Tryz.func150, Tryz.ntmps150
    go_wp2_with fail
    refine (room_any _ _).mono ?_
    rw [h0]
    rintro r w1 ⟨rfl, rfl⟩
    go_wp2_with fail
    go_ret2
    exact ⟨rfl, HE.out⟩
  · have HM : Hid (mayB a b c d e = false) := Lib.hid (by rcases h with h | h; exact absurd h h0; exact h)
    have g0 : (((roomN s : Nat) : Int) == 0) = false := by simpa using h0
    clear h h0
    go_enter Tryz.func150, Tryz.ntmps150
    go_wp2_with fail
    refine (room_any _ _).mono ?_
    rintro r w1 ⟨rfl, rfl⟩
    generalize roomN s = R at *
    go_wp2_with fail
    refine (may_any _ _ _ _ _ _ (HL.out.ext HE.out).a.t).mono ?_
    rw [HM.out]
    rintro r w1 ⟨rfl, hx⟩
    have HE := Lib.hid (HE.out.trans hx)
    clear hx
    go_wp2_with fail
    go_ret2
    exact ⟨rfl, HE.out⟩
set_option maxHeartbeats 3200000 in
theorem seal_long (a b c d e s : Int) (A : Option Addr) (n cp : Nat) (w : World) (hL : LaidF w) (h0 : roomN s ≠ 0) (hm : mayB a b c d e = true) (hn : roomN s < n) :
    Calls Tryz.prog 150 #[.agg #[.int .i64 a, .int .i64 b, .int .i64 c, .int .i64 d, .int .i64 e], .slice A n cp, .int .i64 s] w fun r w' => r = .returned (.tuple #[.slice none 0 0, .int .i64 3]) ∧ Ext w w' := by
  have hE := (Ext.refl w).alloc (.cells #[.int .i64 a, .int .i64 b, .int .i64 c, .int .i64 d, .int .i64 e] 44)
  have hT := heap_alloc_new w (.cells #[.int .i64 a, .int .i64 b, .int .i64 c, .int .i64 d, .int .i64 e] 44)
  have HL := Lib.hid hL
  have HE := Lib.hid hE
  have HM := Lib.hid hm
  obtain ⟨⟨i0, i1, i2, i3, i4⟩, _⟩ := five_cells hT
  have g0 : (((roomN s : Nat) : Int) == 0) = false := by simpa using h0
  clear hE hL hT hm h0
  go_enter Tryz.func150, Tryz.ntmps150
  go_wp2_with fail
  refine (room_any _ _).mono ?_
  rintro r w1 ⟨rfl, rfl⟩
  generalize roomN s = R at *
  go_wp2_with fail
  refine (may_any _ _ _ _ _ _ (HL.out.ext HE.out).a.t).mono ?_
  rw [HM.out]
  rintro r w1 ⟨rfl, hx⟩
  have HE := Lib.hid (HE.out.trans hx)
  clear hx i0 i1 i2 i3 i4
  go_wp2_with fail
  go_ret2
  exact ⟨rfl, HE.out⟩
set_option maxHeartbeats 6400000 in
theorem seal_yes (a b c d e : Int) (S : Nat) (A : Option Addr) (n cp : Nat) (body : List Nat) (w : World) (hL : LaidF w) (hb : By w A n cp body) (h0 : roomN (S : Int) ≠ 0) (hm : mayB a b c d e = true) (hn : n ≤ roomN (S : Int)) :
    Calls Tryz.prog 150 #[.agg #[.int .i64 a, .int .i64 b, .int .i64 c, .int .i64 d, .int .i64 e], .slice A n cp, .int .i64 S] w fun r w' => ∃ A' c', r = .returned (.tuple #[.slice A' (64 * S) c', .int .i64 0]) ∧ By w' A' (64 * S) c' (frameL body (pl a b c d e) S) ∧ w'.ownsRow w.heap.size 5 1 (.slice A' (64 * S) c') (64 * S) (vb (frameL body (pl a b c d e) S)) ∧ Ext w w' := by
  obtain ⟨i0, hi, hz0, hz1, hz2⟩ := info_parts byte_info
  have hE := (Ext.refl w).alloc (.cells #[.int .i64 a, .int .i64 b, .int .i64 c, .int .i64 d, .int .i64 e] 44)
  have hT := heap_alloc_new w (.cells #[.int .i64 a, .int .i64 b, .int .i64 c, .int .i64 d, .int .i64 e] 44)
  have HL := Lib.hid hL
  have HE := Lib.hid hE
  have HM := Lib.hid hm
  have HB := Lib.hid hb
  have HT := Lib.hid hT
  obtain ⟨⟨j0, j1, j2, j3, j4⟩, _⟩ := five_cells hT
  have g0 : (((roomN (S : Int) : Nat) : Int) == 0) = false := by simpa using h0
  have hfit := room_fits hn (by omega)
  have h15 : (pl a b c d e).length = 15 := by rw [pl_yes hm, tagBytes_len]
  have hN : body.length = n := Bs.len hb
  have HN : Hid (body.length = n) := Lib.hid hN
  obtain ⟨m, hm4⟩ : ∃ m : Nat, m = 64 * S - 21 - n := ⟨_, rfl⟩
  have HH : Hid (digs 2 n ++ pl a b c d e ++ body ++ List.replicate m 0 = frameH body (pl a b c d e) S) := Lib.hid (by rw [← hN]; exact frame_split body _ S m (by rw [hN]; exact hm4))
  have HHl : Hid ((frameH body (pl a b c d e) S).length = 64 * S - 4) := Lib.hid (frameH_len h15 (by omega) (by omega))
  have hm5 : (S : Int) * 64 - 17 - (n : Int) - 4 = (m : Int) := by omega
  have hroomle := roomN_le (S : Int)
  have hmle : m ≤ 128 := by omega
  have HM4 : Hid (2 + 15 + n + m = 64 * S - 4 ∧ 64 * S - 4 + 4 = 64 * S) := Lib.hid (by omega)
  clear hE hL hT hm h0 hb hN hm4
  go_enter Tryz.func150, Tryz.ntmps150
  go_wp2_with fail
  refine (room_any _ _).mono ?_
  rintro r w1 ⟨rfl, rfl⟩
  generalize roomN (S : Int) = R at *
  go_wp2_with fail
  refine (may_any _ _ _ _ _ _ (HL.out.ext HE.out).a.t).mono ?_
  rw [HM.out]
  rintro r w1 ⟨rfl, hx⟩
  have HE := Lib.hid (HE.out.trans hx)
  have ht := (hx.block _ (Array.getElem?_eq_some_iff.1 HT.out).1).trans HT.out
  have HT := Lib.hid ht
  clear hx j0 j1 j2 j3 j4 ht
  go_wp2_with fail
  refine (put_by 2 n _ (HL.out.ext HE.out).a.o (fits_iff.2 ⟨rfl, by omega, by show n < 65536; omega⟩)).mono ?_
  rintro r w2 ⟨A2, c2, rfl, hb2, hx⟩
  have HB2 := Lib.hid hb2
  have HE := Lib.hid (HE.out.trans hx)
  have ht := (hx.block _ (Array.getElem?_eq_some_iff.1 HT.out).1).trans HT.out
  clear hx hb2
  obtain ⟨⟨j0, j1, j2, j3, j4⟩, _⟩ := five_cells ht
  clear ht
  go_wp2_with fail
  refine (print_any _ _ _ _ _ _ (HL.out.ext HE.out).a).mono ?_
  rw [h15]
  rintro r w3 ⟨A3, c3, rfl, hb3, hx⟩
  have HB3 := Lib.hid hb3
  have HB2 := Lib.hid (HB2.out.ext hx)
  have HE := Lib.hid (HE.out.trans hx)
  clear hx hb3 j0 j1 j2 j3 j4
  go_wp2_with (at_make; refine wpList_make_full _ rfl _ _ 45 rfl w3.heap.size 5 i0 (.int .u8 0) 1 Tryz.underlying45 hi hz0 hz1 .i64 .i64 _ _ m rfl rfl rfl rfl ?b1 ?b2 ?b3 ?_)
  case b1 => rw [hz2]; omega
  case b2 => unfold maxLen; omega
  case b3 => exact Nat.le_refl _
  intro w4 hown hg
  have HB4 : Hid (By w4 (some ⟨w3.heap.size, 0, none⟩) m m (List.replicate m 0)) := by
    have e : (madeCells #[Value.int .u8 0] m).toList = vb (List.replicate m 0) := by
      rw [toList_madeCells_one]
      simp [vb]
    rw [e] at hown
    exact Lib.hid (Bs.of_own hown (by intro b hb; rw [(List.mem_replicate.1 hb).2]; omega))
  have hx : Ext w3 w4 := (Below.refl w3.heap.size w3).grown hg (Nat.le_refl _) (by simp)
  have HB3 := Lib.hid (HB3.out.ext hx)
  have HB2 := Lib.hid (HB2.out.ext hx)
  have HE := Lib.hid (HE.out.trans hx)
  clear hx hown hg hm5
  go_wp2_with fail
  refine (join4_by _ HB2.out HB3.out (HB.out.ext HE.out) HB4.out (64 * S - 4) HM4.out.1 (by omega)).mono ?_
  rw [HH.out]
  rintro r w5 ⟨A5, c5, rfl, hb5, hx⟩
  have HB5 := Lib.hid hb5
  have HE := Lib.hid (HE.out.trans hx)
  clear hx hb5 HB2 HB3 HB4
  go_wp2_with fail
  refine (sum_by _ _ _ _ _ (HL.out.ext HE.out).h HB5.out).mono ?_
  rintro r w6 ⟨rfl, hx⟩
  have HB5 := Lib.hid (HB5.out.ext hx)
  have HE := Lib.hid (HE.out.trans hx)
  have hs : crcS (frameH body (pl a b c d e) S) < 4294967296 := crcE_lt _ _
  have HZ : Hid (frameH body (pl a b c d e) S ++ digs 4 (crcS (frameH body (pl a b c d e) S)) = frameL body (pl a b c d e) S) := Lib.hid rfl
  clear hx
  generalize crcS (frameH body (pl a b c d e) S) = z at *
  generalize frameH body (pl a b c d e) S = Hd at *
  go_wp2_with fail
  refine (put_by 4 z _ (HL.out.ext HE.out).a.o (fits_iff.2 ⟨rfl, by omega, by show z < 4294967296; omega⟩)).mono ?_
  rintro r w7 ⟨A7, c7, rfl, hb7, hx⟩
  have HB7 := Lib.hid hb7
  have HB5 := Lib.hid (HB5.out.ext hx)
  have HE := Lib.hid (HE.out.trans hx)
  clear hx hb7
  go_wp2_with fail
  refine (join2_own _ HB5.out HB7.out (by omega)).mono ?_
  rw [HZ.out, HM4.out.2]
  rintro r w8 ⟨A8, c8, rfl, ho8, hb8, hx⟩
  have HB8 := Lib.hid hb8
  have HO8 := Lib.hid ho8
  have HS7 := Lib.hid (Ext.size HE.out)
  have HE := Lib.hid (HE.out.trans hx)
  clear hx hb8 ho8
  go_wp2_with fail
  go_ret2
  refine ⟨A8, c8, rfl, HB8.out, ⟨HO8.out.1, ?_⟩, HE.out⟩
  rcases HO8.out.2 with h0 | ⟨g, cap, cur, hv, hbg, hrest⟩
  · exact .inl h0
  · exact .inr ⟨g, cap, cur, hv, Nat.le_trans HS7.out hbg, hrest⟩
theorem seal_own (a b c d e s : Int) (A : Option Addr) (n cp : Nat) (body : List Nat) (w : World) (hL : LaidF w) (hb : By w A n cp body) :
    Calls Tryz.prog 150 #[.agg #[.int .i64 a, .int .i64 b, .int .i64 c, .int .i64 d, .int .i64 e], .slice A n cp, .int .i64 s] w fun r w' => ∃ A' c', r = .returned (.tuple #[.slice A' (sealL a b c d e body s).length c', .int .i64 (sealE a b c d e n s)]) ∧ By w' A' (sealL a b c d e body s).length c' (sealL a b c d e body s) ∧ (sealE a b c d e n s = 0 → w'.ownsRow w.heap.size 5 1 (.slice A' (sealL a b c d e body s).length c') (sealL a b c d e body s).length (vb (sealL a b c d e body s))) ∧ Ext w w' := by
  have hlen : body.length = n := Bs.len hb
  by_cases h : roomN s = 0 ∨ mayB a b c d e = false
  · have hE := sealE_arg (n := n) h
    rw [sealL_no (by rw [hlen, hE]; omega), hE]
    exact (seal_arg a b c d e s A n cp w hL h).mono fun _ w' ⟨h1, h2⟩ => ⟨none, 0, h1, By.nil_ w', (fun h => by cases h), h2⟩
  · have h0 : roomN s ≠ 0 := fun hh => h (.inl hh)
    have hm : mayB a b c d e = true := by
      by_cases hm : mayB a b c d e = true
      · exact hm
      · exact absurd (.inr (by simpa using hm)) h
    by_cases hn : roomN s < n
    · have hE := sealE_long h0 hm hn
      rw [sealL_no (by rw [hlen, hE]; omega), hE]
      exact (seal_long a b c d e s A n cp w hL h0 hm hn).mono fun _ w' ⟨h1, h2⟩ => ⟨none, 0, h1, By.nil_ w', (fun h => by cases h), h2⟩
    · obtain ⟨S, rfl⟩ := Int.eq_ofNat_of_zero_le (show 0 ≤ s by have := roomN_pos (s := s) (by omega); omega)
      have hE := sealE_yes h0 hm (show n ≤ roomN (S : Int) by omega)
      have hfit := room_fits (show n ≤ roomN (S : Int) by omega) (by omega)
      rw [sealL_yes (by rw [hlen]; exact hE), hE, Int.toNat_natCast, frameL_len (by rw [pl_yes hm, tagBytes_len]) (by omega) (by omega)]
      exact (seal_yes a b c d e S A n cp body w hL hb h0 hm (by omega)).mono fun _ w' ⟨A', c', h1, h2, h3, h4⟩ => ⟨A', c', h1, h2, fun _ => h3, h4⟩
theorem seal_any (a b c d e s : Int) (A : Option Addr) (n cp : Nat) (body : List Nat) (w : World) (hL : LaidF w) (hb : By w A n cp body) :
    Calls Tryz.prog 150 #[.agg #[.int .i64 a, .int .i64 b, .int .i64 c, .int .i64 d, .int .i64 e], .slice A n cp, .int .i64 s] w fun r w' => ∃ A' c', r = .returned (.tuple #[.slice A' (sealL a b c d e body s).length c', .int .i64 (sealE a b c d e n s)]) ∧ By w' A' (sealL a b c d e body s).length c' (sealL a b c d e body s) ∧ Ext w w' :=
  (seal_own a b c d e s A n cp body w hL hb).mono fun _ _ ⟨A', c', h1, h2, _, h4⟩ => ⟨A', c', h1, h2, h4⟩
end
section
open Go Go.RowKit Go.ChangeShapes Go.WideShapes Go.Deep
def tab2 {H : Type} (k : IntKind) (rows : List (List Int)) : DataW H := .agg (rows.map fun r => .agg (r.map fun z => .lit (.int k z)))
theorem cells_of_tab2 {H : Type} {enc : TypeId × Value → H} {P : Program} {w : World} {base : Nat} {sp : Nat → Bool} {held : Bool} {fuel : Nat} {t e : TypeId} {n : Nat} {k : IntKind} {fs : Array Field} {cs : List Value} {rows : List (List Int)} {p : List MemPlace}
    (ht : P.underlying t = some (.array n e)) (he : P.underlying e = some (.struct fs)) (hone : oneCellFields P fs = true) (hC : P.cellsOf e = fs.size) (hk : ∀ (j : Nat) (f : Field), fs[j]? = some f → P.underlying f.type = some (.int k))
    (h : DataW.trod enc P w base sp held fuel t cs = some (tab2 k rows, p)) (i : Nat) (r : List Int) (hr : rows[i]? = some r) (j : Nat) (z : Int) (hz : r[j]? = some z) : cs[i * fs.size + j]? = some (.int k z) := by
  obtain ⟨xs, m, _, hx, _, hxl, hxi⟩ := DataW.trod_array ht h
  have hx1 : xs.map (·.1) = rows.map fun r => (.agg (r.map fun z => .lit (.int k z)) : DataW H) := by
    have := congrArg Prod.fst hx
    simp only [tab2, DataW.agg.injEq] at this
    exact this.symm
  have hin : i < n := by
    have h1 : i < rows.length := (List.getElem?_eq_some_iff.1 hr).1
    have h2 := congrArg List.length hx1
    simp at h2
    omega
  have hrow := hxi i hin
  obtain ⟨x, hxe⟩ : ∃ x, xs[i]? = some x := ⟨_, List.getElem?_eq_getElem (by omega)⟩
  have hx2 : x.1 = (.agg (r.map fun z => .lit (.int k z)) : DataW H) := by
    have := congrArg (·[i]?) hx1
    simpa [hxe, hr] using this
  rw [hxe, hC] at hrow
  obtain ⟨ys, m2, _, hy, _, hyl, hyf⟩ := DataW.trod_struct he hrow
  have hy1 : ys.map (·.1) = r.map fun z => (.lit (.int k z) : DataW H) := by
    have := congrArg Prod.fst hy
    rw [hx2] at this
    simp only [DataW.agg.injEq] at this
    exact this.symm
  have hjn : j < fs.size := by
    have h1 : j < r.length := (List.getElem?_eq_some_iff.1 hz).1
    have h2 := congrArg List.length hy1
    simp at h2
    omega
  have hf : fs[j]? = some fs[j] := Array.getElem?_eq_getElem hjn
  obtain ⟨ho, hc1⟩ := hone_of hone j fs[j] hf
  have hfj := hyf j fs[j] hf
  rw [ho, hc1] at hfj
  obtain ⟨y, hye⟩ : ∃ y, ys[j]? = some y := ⟨_, List.getElem?_eq_getElem (by omega)⟩
  rw [hye] at hfj
  obtain ⟨z', hcs, hyz, _⟩ := DataW.trod_int (hk j fs[j] hf) hfj
  have hz' : z' = z := by
    have := congrArg (·[j]?) hy1
    simpa [hye, hyz, hz] using this
  subst hz'
  have := congrArg (·[0]?) hcs
  simp [List.getElem?_drop, hjn] at this
  exact this
theorem tab2_of_head {P : Program} {W : World} {name : String} {k : IntKind} {rows : List (List Int)} {rest : List (String × DataW Unit)} {g : Nat} {t e : TypeId} {n : Nat} {fs : Array Field}
    (hg : P.globalNamed name = some g) (hty : (P.globals[g]?).map (·.type) = some t) (ht : P.underlying t = some (.array n e)) (he : P.underlying e = some (.struct fs)) (hone : oneCellFields P fs = true) (hC : P.cellsOf e = fs.size) (hk : ∀ (j : Nat) (f : Field), fs[j]? = some f → P.underlying f.type = some (.int k))
    (h : laidMet P ((name, tab2 k rows) :: rest) W) (i : Nat) (r : List Int) (hr : rows[i]? = some r) (j : Nat) (z : Int) (hz : r[j]? = some z) : W.cell? ⟨g, i * fs.size + j, none⟩ = some (.int k z) := by
  obtain ⟨ps, ⟨g', t', cs, fuel, p, q, hg', ht', hvar, hd, _, _⟩, _⟩ := h
  obtain rfl := Option.some.inj (hg.symm.trans hg')
  obtain rfl := Option.some.inj (hty.symm.trans ht')
  have hc := cells_of_tab2 ht he hone hC hk hd i r hr j z hz
  exact (World.var?_cell hg hvar (i * fs.size + j)).trans (by simpa using hc)
end
section
open Go Go.ChangeShapes Go.WideShapes Go.ChangeAt Go.WideMaps Go.WideElems Go.RowKit Go.Deep
theorem laid_o {W : World} {rest : List (String × DataW Unit)} (h : laidMet Tryz.prog (("sexton/octet.bounds", Rows.laid_sexton_octet_bounds) :: rest) W) : Laid W := by
  have hg : Tryz.prog.globalNamed "sexton/octet.bounds" = some 4 := by kernel_rfl
  have ht : (Tryz.prog.globals[4]?).map (·.type) = some 368 := by kernel_rfl
  have hv : W.var? Tryz.prog "sexton/octet.bounds" = some (([0, 256, 65536, 0, 4294967296, 0, 281474976710656] : List Int).map fun z => Value.int .i64 z).toArray :=
    Lib.tabIs_of_head hg ht Tryz.underlying368 Tryz.underlying3 (by kernel_rfl) (by kernel_rfl) h
  have hc := fun i => World.var?_cell hg hv i
  exact ⟨hc 0, hc 1, hc 2, hc 3, hc 4, hc 5, hc 6⟩
theorem laid_t {W : World} {rest : List (String × DataW Unit)} (h : laidMet Tryz.prog (("sexton/tag.regions", Rows.laid_sexton_tag_regions) :: rest) W) : LaidT W := by
  have hg : Tryz.prog.globalNamed "sexton/tag.regions" = some 2 := by kernel_rfl
  have ht : (Tryz.prog.globals[2]?).map (·.type) = some 290 := by kernel_rfl
  have hc := tab2_of_head (k := .i64) (rows := [[0, 0], [2, 1], [2, 1], [24, 1], [48, 2], [16, 2]]) hg ht Tryz.underlying290 Tryz.underlying289 (by kernel_rfl) (by kernel_rfl)
    (fun j f hf => by
      match j, hf with
      | 0, hf => injection hf with hf; subst hf; exact Tryz.underlying3
      | 1, hf => injection hf with hf; subst hf; exact Tryz.underlying3
      | (j + 2), hf => simp at hf) h
  have row : ∀ (i : Nat) (a b : Int), ([[0, 0], [2, 1], [2, 1], [24, 1], [48, 2], [16, 2]] : List (List Int))[i]? = some [a, b] → W.cell? ⟨2, i * 2, none⟩ = some (.int .i64 a) ∧ W.cell? ⟨2, i * 2 + 1, none⟩ = some (.int .i64 b) := fun i a b hi => ⟨hc i [a, b] hi 0 a rfl, hc i [a, b] hi 1 b rfl⟩
  intro r hr
  have hj' : r = 0 ∨ r = 1 ∨ r = 2 ∨ r = 3 ∨ r = 4 ∨ r = 5 := by omega
  rcases hj' with rfl | rfl | rfl | rfl | rfl | rfl
  · exact row 0 0 0 rfl
  · exact row 1 2 1 rfl
  · exact row 2 2 1 rfl
  · exact row 3 24 1 rfl
  · exact row 4 48 2 rfl
  · exact row 5 16 2 rfl
theorem laid_w {W : World} {rest : List (String × DataW Unit)} (h : laidMet Tryz.prog (("sexton/tag.widths", Rows.laid_sexton_tag_widths) :: rest) W) : LaidW W := by
  have hg : Tryz.prog.globalNamed "sexton/tag.widths" = some 3 := by kernel_rfl
  have ht : (Tryz.prog.globals[3]?).map (·.type) = some 348 := by kernel_rfl
  have hv : W.var? Tryz.prog "sexton/tag.widths" = some (([1, 1, 1, 6, 6] : List Int).map fun z => Value.int .i64 z).toArray :=
    Lib.tabIs_of_head hg ht Tryz.underlying348 Tryz.underlying3 (by kernel_rfl) (by kernel_rfl) h
  have hc := fun i => World.var?_cell hg hv i
  intro k hk
  have hj' : k = 0 ∨ k = 1 ∨ k = 2 ∨ k = 3 ∨ k = 4 := by omega
  rcases hj' with rfl | rfl | rfl | rfl | rfl
  · exact hc 0
  · exact hc 1
  · exact hc 2
  · exact hc 3
  · exact hc 4
theorem laid_h {W : World} {rest : List (String × DataW Unit)} (h : laidMet Tryz.prog (("sexton/crc.halves", Rows.laid_sexton_crc_halves) :: rest) W) : LaidH W := by
  have hg : Tryz.prog.globalNamed "sexton/crc.halves" = some 5 := by kernel_rfl
  have ht : (Tryz.prog.globals[5]?).map (·.type) = some 374 := by kernel_rfl
  have hv : W.var? Tryz.prog "sexton/crc.halves" = some (([0, 274646895, 549293790, 820201905, 1098587580, 1361435347, 1640403810, 1905808397, 2197175160, 2460548119, 2722870694, 2987750089, 3280807620, 3553878443, 3811616794, 4084100981] : List Int).map fun z => Value.int .u32 z).toArray :=
    Lib.tabIs_of_head hg ht Tryz.underlying374 Tryz.underlying247 (by kernel_rfl) (by kernel_rfl) h
  have hc := fun i => World.var?_cell hg hv i
  intro i hi
  have e : ∀ j, j < 16 → ((([0, 274646895, 549293790, 820201905, 1098587580, 1361435347, 1640403810, 1905808397, 2197175160, 2460548119, 2722870694, 2987750089, 3280807620, 3553878443, 3811616794, 4084100981] : List Int).map fun z => Value.int .u32 z).toArray)[j]? = some (.int .u32 ((stps 4 j : Nat) : Int)) := by
    intro j hj
    have hj' : j = 0 ∨ j = 1 ∨ j = 2 ∨ j = 3 ∨ j = 4 ∨ j = 5 ∨ j = 6 ∨ j = 7 ∨ j = 8 ∨ j = 9 ∨ j = 10 ∨ j = 11 ∨ j = 12 ∨ j = 13 ∨ j = 14 ∨ j = 15 := by omega
    rcases hj' with rfl | rfl | rfl | rfl | rfl | rfl | rfl | rfl | rfl | rfl | rfl | rfl | rfl | rfl | rfl | rfl <;> rfl
  exact (hc i).trans (e i hi)
end
section
open Go Go.RowKit
def bl (s : ByteArray) : List Nat := s.data.toList.map UInt8.toNat
theorem bl_length (s : ByteArray) : (bl s).length = s.size := by
  unfold bl
  rw [List.length_map]
  rfl
theorem bl_lt (s : ByteArray) : ∀ b ∈ bl s, b < 256 := by
  intro b hb
  simp only [bl, List.mem_map] at hb
  obtain ⟨u, _, rfl⟩ := hb
  exact u.toNat_lt
theorem bl_get (s : ByteArray) (j x : Nat) (h : (bl s)[j]? = some x) (cap : Nat) : (bytesRow s cap)[j]? = some (.int .u8 ((x : Nat) : Int)) := by
  unfold bl at h
  rw [List.getElem?_map] at h
  obtain ⟨u, hu, rfl⟩ := Option.map_eq_some_iff.1 h
  have hu' : s.data[j]? = some u := by rw [← Array.getElem?_toList]; exact hu
  have hj : j < s.data.size := (Array.getElem?_eq_some_iff.1 hu').1
  unfold bytesRow
  rw [Array.getElem?_append_left (by rw [Array.size_map]; exact hj), Array.getElem?_map, hu']
  rfl
theorem own_base {w : World} {b b' e : Nat} {v : Value} {n : Nat} {xs : List Value} (h : w.ownsRow b e 1 v n xs) (hb : b' ≤ b) : w.ownsRow b' e 1 v n xs := by
  refine ⟨h.1, ?_⟩
  rcases h.2 with h2 | ⟨g, cap, cur, h2, h3, h4⟩
  · exact .inl h2
  · exact .inr ⟨g, cap, cur, h2, Nat.le_trans hb h3, h4⟩
def textW (s : ByteArray) (w : World) (cap : Nat) (fr : Nat × Nat) : World :=
  (((w.alloc (.cells #[.int .u8 (s.size : Int)] 5)).alloc (.cells (bytesRow s cap) 5 fr)).alloc
    (.cells #[.slice (some ⟨w.heap.size, 0, none⟩) 1 1, .slice (some ⟨w.heap.size + 1, 0, none⟩) s.size cap] 45)).drew
def textPs (s : ByteArray) (w : World) (cap : Nat) : List (Value × List Nat) :=
  [(.slice (some ⟨w.heap.size, 0, none⟩) 1 1, [s.size]), (.slice (some ⟨w.heap.size + 1, 0, none⟩) s.size cap, bl s)]
theorem textW_below (s : ByteArray) (w : World) (cap : Nat) (fr : Nat × Nat) : Below w.heap.size w (textW s w cap fr) :=
  ((((Below.refl _ _).alloc (Nat.le_refl _) _).alloc (by simp) _).alloc (by simp; omega) _).drew
theorem textW_size (s : ByteArray) (w : World) (cap : Nat) (fr : Nat × Nat) : (textW s w cap fr).heap.size = w.heap.size + 3 := by
  simp [textW]
theorem text_parts (s : ByteArray) (w : World) (cap : Nat) (fr : Nat × Nat) (hs : s.size ≤ 255) (h1 : s.size ≤ cap) (h2 : cap ≤ maxLen) :
    Parts (textW s w cap fr) (textW s w cap fr).heap.size (some ⟨w.heap.size + 1 + 1, 0, none⟩) 2 (textPs s w cap) := by
  unfold maxLen at h2
  rw [textW_size]
  refine ⟨rfl, fun _ => ⟨_, 0, rfl, by omega, fun j p hp => ?_⟩, fun p hp => ?_⟩
  · match j, hp with
    | 0, hp => simp [textPs] at hp; subst hp; simp [textW, go_sem]
    | 1, hp => simp [textPs] at hp; subst hp; simp [textW, go_sem]
    | j + 2, hp => simp [textPs] at hp
  · simp only [textPs, List.mem_cons, List.not_mem_nil, or_false] at hp
    rcases hp with rfl | rfl
    · refine ⟨_, _, _, rfl, rfl, Nat.le_refl _, by omega, ⟨by intro b hb; simp at hb; omega, fun _ => ⟨_, 0, rfl, by omega, fun j x hx => ?_⟩⟩, fun h => by cases h⟩
      match j, hx with
      | 0, hx => simp at hx; subst hx; simp [textW, go_sem]
      | j + 1, hx => simp at hx
    · refine ⟨_, _, _, rfl, bl_length s, h1, h2, ⟨bl_lt s, fun _ => ⟨_, 0, rfl, by omega, fun j x hx => ?_⟩⟩, fun h => by cases h⟩
      have hb := bl_get s j x hx cap
      have hh : ((w.alloc (.cells #[.int .u8 (s.size : Int)] 5)).alloc (.cells (bytesRow s cap) 5 fr)).heap[w.heap.size + 1]? = some (.cells (bytesRow s cap) 5 fr) := by
        have := heap_alloc_new (w.alloc (.cells #[.int .u8 (s.size : Int)] 5)) (.cells (bytesRow s cap) 5 fr)
        simpa using this
      have hc := cell_of_row _ _ j _ _ _ hh
      rw [hb] at hc
      simp [textW, go_sem, hc]
theorem textPs_cat (s : ByteArray) (w : World) (cap : Nat) : cat (textPs s w cap) = s.size :: bl s := by simp [cat, textPs]
set_option maxHeartbeats 800000 in
theorem otext_yes (s : ByteArray) (w : World) (hs : s.size ≤ 255) :
    Calls Tryz.prog 256 #[.string s] w fun e w' => ∃ A' c', e = .returned (.tuple #[.slice A' (s.size + 1) c', .int .i64 0]) ∧ w'.ownsRow w.heap.size 5 1 (.slice A' (s.size + 1) c') (s.size + 1) (vb (s.size :: bl s)) ∧ Below w.heap.size w w' := by
  have hconv := fun (W : World) => run_bytes_of_string (P := Tryz.prog) W 9 45 5 s Tryz.underlying9 Tryz.underlying45 Tryz.underlying5
  go_enter Tryz.func256, Tryz.ntmps256
  go_wp2_with fail
  refine (join_any _ 2 2 (textPs s w _) (textW s w _ _) (by exact text_parts s w _ _ hs (grownCap_ge _ _ _ _) (grownCap_le_maxLen _ _ _ _ (by unfold maxLen; omega))) (by omega) (by rw [textPs_cat, List.length_cons, bl_length]; omega)).mono ?_
  rw [textPs_cat, List.length_cons, bl_length]
  rintro e w1 ⟨A', c', rfl, hown, hbel⟩
  rw [textW_size] at hown hbel
  have HO := Lib.hid hown
  have HB := Lib.hid hbel
  clear hown hbel hconv
  go_wp2_with fail
  go_ret2
  exact ⟨A', c', rfl, own_base HO.out (by omega), (textW_below s w _ _).trans (HB.out.mono (by omega))⟩
end
section
open Go Go.RowKit
def str (l : List Nat) : ByteArray := ⟨(l.map UInt8.ofNat).toArray⟩
def readS (l : List Nat) (at_ : Int) : List Nat × Nat × Int :=
  if (getS l at_ 1).2.2 ≠ 0 then ([], 0, (getS l at_ 1).2.2)
  else if l.length - (getS l at_ 1).2.1 < (getS l at_ 1).1 then ([], 0, 10)
  else ((l.drop (getS l at_ 1).2.1).take (getS l at_ 1).1, (getS l at_ 1).2.1 + (getS l at_ 1).1, 0)
theorem getS_one {l : List Nat} {a b : Nat} (hb : l[a]? = some b) : getS l (a : Int) 1 = (b, a + 1, 0) := by
  have ha : a < l.length := (List.getElem?_eq_some_iff.1 hb).1
  rw [getS_yes rfl (by omega) (by omega) (by omega)]
  have e : (l.drop a).take 1 = [b] := by
    have h0 : (l.drop a)[0]? = some b := by rw [List.getElem?_drop]; exact hb
    rw [List.take_add_one, h0]
    simp
  simp [e, num]
theorem getS_end {l : List Nat} : getS l (l.length : Int) 1 = (0, 0, 10) := getS_short rfl (by omega) (by omega) (by omega)
theorem readS_err {l : List Nat} {a e : Int} (h : getS l a 1 = (0, 0, e)) (he : e ≠ 0) : readS l a = ([], 0, e) := by
  unfold readS
  rw [h, if_pos he]
theorem readS_short {l : List Nat} {a b : Nat} (hb : l[a]? = some b) (h : l.length < a + 1 + b) : readS l (a : Int) = ([], 0, 10) := by
  have ha : a < l.length := (List.getElem?_eq_some_iff.1 hb).1
  unfold readS
  rw [getS_one hb, if_neg (by simp), if_pos (by simp only; omega)]
theorem readS_yes {l : List Nat} {a b : Nat} (hb : l[a]? = some b) (h : a + 1 + b ≤ l.length) : readS l (a : Int) = ((l.drop (a + 1)).take b, a + 1 + b, 0) := by
  unfold readS
  rw [getS_one hb, if_neg (by simp), if_neg (by simp only; omega)]
theorem conv_zero {P : Program} (w : World) (src dst e : TypeId) (A : Option Addr) (c : Nat) (hs : P.underlying src = some (.slice e)) (he : P.underlying e = some (.int .u8)) (hd : P.underlying dst = some .string) :
    (convert src dst (.slice A 0 c)).run P w = .ok (.string (str [])) w := by
  rw [run_convert_bytes_string w src dst e _ 0 c hs he hd]
  cases A with
  | none => simp [Conv.bytesToString]; rfl
  | some a =>
    have hl := run_loadCells_list (P := P) w a [] (fun j v hj => by simp at hj)
    rw [run_bytesToString w a 0 c [] hl]
    rfl
theorem conv_some {P : Program} {w : World} {B : Nat} {g o : Nat} {l : List Nat} (hr : Rd w B (some ⟨g, o, none⟩) l) (n c : Nat) (hl : l.length = n) (src dst e : TypeId) (hs : P.underlying src = some (.slice e)) (he : P.underlying e = some (.int .u8)) (hd : P.underlying dst = some .string) :
    (convert src dst (.slice (some ⟨g, o, none⟩) n c)).run P w = .ok (.string (str l)) w := by
  subst hl
  by_cases h0 : l.length = 0
  · rw [h0, List.eq_nil_of_length_eq_zero h0]
    exact conv_zero w src dst e _ c hs he hd
  · have e1 : (l.map UInt8.ofNat).length = l.length := by simp
    have h := run_convert_bytes_back (P := P) w src dst e ⟨g, o, none⟩ c (l.map UInt8.ofNat) hs he hd (fun j hj => by
      have hj' : j < l.length := by simpa using hj
      obtain ⟨g', o', x, hA, _, hx, hx2, hc⟩ := hr.at_ hj'
      injection hA with hA
      injection hA with h1 h2
      subst h1; subst h2
      rw [Addr.add_lit, hc]
      have : (l.map UInt8.ofNat)[j] = UInt8.ofNat x := by
        have h3 := List.getElem?_eq_some_iff.1 hx
        simp [h3.2]
      rw [this]
      simp [Nat.mod_eq_of_lt hx2])
    rw [e1] at h
    exact h
set_option maxHeartbeats 800000 in
theorem oread_any (A : Option Addr) (l : List Nat) (n c B : Nat) (a : Int) (w : World) (hL : Laid w) (hl : l.length = n) (hc : n ≤ c) (hr : Rd w B A l) (hn9 : n ≤ 9000000000000000000) :
    Calls Tryz.prog 301 #[.slice A n c, .int .i64 a] w fun e w' => e = .returned (.tuple #[.string (str (readS l a).1), .int .i64 (readS l a).2.1, .int .i64 (readS l a).2.2]) ∧ w = w' := by
  have H := Lib.hid hL
  clear hL
  have HL := Lib.hid hl
  clear hl
  have HE : Hid (a < 0 ∨ (n : Int) < a ∨ (n : Int) = a ∨ ∃ k : Nat, k < n ∧ a = k) := Lib.hid (by
    by_cases h1 : a < 0
    · exact .inl h1
    · obtain ⟨k, rfl⟩ := Int.eq_ofNat_of_zero_le (show 0 ≤ a by omega)
      by_cases h2 : k < n
      · exact .inr (.inr (.inr ⟨k, h2, rfl⟩))
      · by_cases h3 : k = n
        · exact .inr (.inr (.inl (by omega)))
        · exact .inr (.inl (by omega)))
  have bad : ∀ e : Int, (e == 0) = false → (e != 0) = true → getS l a 1 = (0, 0, e) → Calls Tryz.prog 301 #[.slice A n c, .int .i64 a] w fun e w' => e = .returned (.tuple #[.string (str (readS l a).1), .int .i64 (readS l a).2.1, .int .i64 (readS l a).2.2]) ∧ w = w' := by
    intro e h0 h0' hg
    have HF := Lib.hid (readS_err hg (by simpa using h0))
    have HG := Lib.hid hg
    clear hg HE
    go_enter Tryz.func301, Tryz.ntmps301
    go_wp2_with (go_at_call 237; refine (oget_any _ _ _ _ _ _ _ _ H.out HL.out hr (by omega)).mono ?_; rintro e w' ⟨rfl, rfl⟩; rw [HG.out])
    go_ret3
    exact ⟨by rw [HF.out]; rfl, rfl⟩
  rcases HE.out with h | h | h | ⟨k, hk, rfl⟩
  · exact bad 2 rfl rfl (getS_arg (.inr (.inl h)))
  · exact bad 2 rfl rfl (getS_arg (.inr (.inr (by rw [HL.out]; exact h))))
  · exact bad 10 rfl rfl (by rw [← h, ← HL.out]; exact getS_end)
  · clear bad HE
    obtain ⟨g, o, b, hA, _, hb, hb2, _⟩ := hr.at_ (k := k) (by rw [HL.out]; exact hk)
    subst hA
    have HG := Lib.hid (getS_one hb)
    have HB := Lib.hid hb
    by_cases hlt : n < k + 1 + b
    · have HF := Lib.hid (readS_short hb (by rw [HL.out]; exact hlt))
      clear hb
      go_enter Tryz.func301, Tryz.ntmps301
      go_wp2_with (go_at_call 237; refine (oget_any _ _ _ _ _ _ _ _ H.out HL.out hr (by omega)).mono ?_; rintro e w' ⟨rfl, rfl⟩; rw [HG.out])
      go_ret3
      exact ⟨by rw [HF.out]; rfl, rfl⟩
    · have HF := Lib.hid (readS_yes hb (by rw [HL.out]; omega))
      clear hb
      have hdt : ((l.drop (k + 1)).take b).length = b := by rw [List.length_take, List.length_drop, HL.out]; omega
      by_cases hb0 : b = 0
      · subst hb0
        have hcv := fun A' c' => conv_zero (P := Tryz.prog) w 45 9 5 A' c' Tryz.underlying45 Tryz.underlying5 Tryz.underlying9
        clear hdt
        go_enter Tryz.func301, Tryz.ntmps301
        go_wp2_with (go_at_call 237; refine (oget_any _ _ _ _ _ _ _ _ H.out HL.out hr (by omega)).mono ?_; rintro e w' ⟨rfl, rfl⟩; rw [HG.out])
        all_goals (go_ret3; exact ⟨by rw [HF.out]; simp, rfl⟩)
      · have hcv := fun c' => conv_some (P := Tryz.prog) ((hr.drop rfl (k + 1)).take b) b c' hdt 45 9 5 Tryz.underlying45 Tryz.underlying5 Tryz.underlying9
        have hne : ¬ c = k + 1 := by omega
        clear hdt
        go_enter Tryz.func301, Tryz.ntmps301
        go_wp2_with (go_at_call 237; refine (oget_any _ _ _ _ _ _ _ _ H.out HL.out hr (by omega)).mono ?_; rintro e w' ⟨rfl, rfl⟩; rw [HG.out])
        go_ret3
        exact ⟨by rw [HF.out]; rfl, rfl⟩
end
end Go.Proofs.YtmbmpabjclkhlaaGreatDoor

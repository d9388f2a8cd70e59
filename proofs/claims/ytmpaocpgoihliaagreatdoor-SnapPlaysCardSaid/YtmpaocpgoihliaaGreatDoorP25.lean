/-
  The contracts of the document's own Wide, First, Where: they answer as the plain facts say, and leave the memory as it was.
-/
import Derived.Test.YtmpaocpgoihliaaGreatDoorP00
import Derived.Test.YtmpaocpgoihliaaGreatDoorP04
import Derived.Test.YtmpaocpgoihliaaGreatDoorP08
import Derived.Test.YtmpaocpgoihliaaGreatDoorP11
import Derived.Test.YtmpaocpgoihliaaGreatDoorP12
import Derived.Test.YtmpaocpgoihliaaGreatDoorP13
import Derived.Test.YtmpaocpgoihliaaGreatDoorP22
import Derived.Test.YtmpaocpgoihliaaGreatDoorP23
import Derived.Test.YtmpaocpgoihliaaGreatDoorP24
import Derived.Test.YtmpaocpgoihliaaGreatDoorProg
import Derived.WalkKit
import Derived.WalkSpells
import Derived.WalkLawsBesides
import Derived.BigQuiet
import Derived.Lib.Hide
import Derived.Outline
namespace Go.Proofs.YtmpaocpgoihliaaGreatDoor
set_option maxRecDepth 100000
section
open Go Go.RowKit
theorem rwide_any (r : Int) (w : World) :
 Calls Tryz.prog 125 #[.int .i64 r] w fun e w' => e = .returned (.int .i64 (wid r)) ∧ w = w' := by
 by_cases h : r < 1 ∨ 5 < r
 ·have HF := Lib.hid (wid_out h)
  have g1 : (r == 1) = false := by simp; omega
  have g2 : (r == 2) = false := by simp; omega
  have g3 : (r == 3) = false := by simp; omega
  have g4 : (r == 4) = false := by simp; omega
  have g5 : (r == 5) = false := by simp; omega
  clear h
  go_enter Tryz.func125, Tryz.ntmps125
  go_wp2_with fail
  go_ret
  exact ⟨by rw [HF.out]; rfl, rfl⟩
 ·rcases region_cases (r := r) (by omega) with rfl | rfl | rfl | rfl | rfl
  all_goals
   go_enter Tryz.func125, Tryz.ntmps125
   go_wp2_with fail
   go_ret
   exact ⟨rfl, rfl⟩
def NF (r p : Int) (a q : Nat) : Prop := ¬ (1 ≤ r ∧ r < a ∧ 0 ≤ p ∧ p < plc r) ∧ ¬ (r = a ∧ 0 ≤ p ∧ p < q)
theorem NF.zero (r p : Int) : NF r p 1 0 := ⟨by omega, by omega⟩
theorem NF.step {r p : Int} {a q : Nat} (h : NF r p a q) (hn : ¬ (r = a ∧ p = q)) : NF r p a (q + 1) := ⟨h.1, by have := h.2; omega⟩
theorem NF.next {r p : Int} {a q : Nat} (h : NF r p a q) (hq : q = plc a) : NF r p (a + 1) 0 := by
 subst hq
 refine ⟨?_, by omega⟩
 rintro ⟨h1, h2, h3, h4⟩
 by_cases e : r = a
 ·subst e; exact h.2 ⟨rfl, h3, h4⟩
 ·exact h.1 ⟨h1, by omega, h3, h4⟩
theorem NF.end_ {r p : Int} (h : NF r p 6 0) : firstS r p = -1 := by
 refine firstS_no ?_
 rintro ⟨h1, h2⟩
 have := plc_some (r := r) (by omega)
 exact h.1 ⟨this.1, by omega, h1, h2⟩
theorem at_step (a q : Nat) : beg a + (q + 1) * wid a = beg a + q * wid a + wid a := by rw [Nat.succ_mul]; omega
theorem at_le {a q : Nat} (ha : a ≤ 5) (hq : q ≤ plc a) : beg a + q * wid a ≤ beg ((a : Int) + 1) := by
 rw [beg_next a ha]
 have := Nat.mul_le_mul_right (wid a) hq
 omega
set_option maxHeartbeats 1600000 in
theorem rfirst_any (r p : Int) (w : World) :
 Calls Tryz.prog 126 #[.int .i64 r, .int .i64 p] w fun e w' => e = .returned (.int .i64 (firstS r p)) ∧ w = w' := by
 go_enter Tryz.func126, Tryz.ntmps126
 go_wp2_with fail
 go_loop [5, 6] (fun t i => ∃ a : Nat, 1 ≤ a ∧ a ≤ 6 ∧ i = .int .i64 a ∧ t = .int .i64 (beg a) ∧ Hid (NF r p a 0)) (fun _ i => 6 - (intOf i).toNat)
 case atStart => exact ⟨1, by omega, by omega, rfl, rfl, Lib.hid (NF.zero r p)⟩
 case round =>
  obtain ⟨a, ha1, ha6, rfl, rfl, HN⟩ := hrel
  by_cases hlt : a ≤ 5
  ·have ha' : (a : Int) ≤ 5 := by omega
   go_wp2_with fail
   go_loop [5, 7] (fun t i => ∃ q : Nat, q ≤ plc a ∧ i = .int .i64 q ∧ t = .int .i64 (beg a + q * wid a : Nat) ∧ Hid (NF r p a q)) (fun _ i => plc a - (intOf i).toNat)
   case atStart => exact ⟨0, Nat.zero_le _, rfl, by simp, HN⟩
   case round =>
    obtain ⟨q, hq, rfl, rfl, HN⟩ := hrel
    have HAt := Lib.hid (at_step a q)
    have hle := at_le hlt hq
    have hb := beg_le ((a : Int) + 1)
    have hw := wid_le a
    have hpl := plc_le a
    generalize hm : beg a + q * wid a = m at *
    have HM := Lib.hid hm
    clear hm
    by_cases hql : q < plc a
    ·by_cases hin : r = a ∧ p = q
     ·obtain ⟨rfl, rfl⟩ := hin
      go_wp2_with (go_at_call 204; refine (rplaces_any _ _).mono ?_; rintro e w' ⟨rfl, rfl⟩)
      go_ret
      exact ⟨by rw [firstS_yes (by omega), ← HM.out]; simp, rfl⟩
     ·have HN' := Lib.hid (HN.out.step hin)
      by_cases hra : r = a
      ·subst hra
       have hpq : ((q : Int) == p) = false := by simp; omega
       clear hin
       go_wp2_with (first | (go_at_call 204; refine (rplaces_any _ _).mono ?_; rintro e w' ⟨rfl, rfl⟩) | (go_at_call 125; refine (rwide_any _ _).mono ?_; rintro e w' ⟨rfl, rfl⟩))
       go_round
       case rel => exact ⟨q + 1, by omega, by go_num, by rw [HAt.out]; go_num, HN'⟩
       case measure => simp [intOf]; omega
      ·have hra' : ((a : Int) == r) = false := by simp; omega
       clear hin hra
       go_wp2_with (first | (go_at_call 204; refine (rplaces_any _ _).mono ?_; rintro e w' ⟨rfl, rfl⟩) | (go_at_call 125; refine (rwide_any _ _).mono ?_; rintro e w' ⟨rfl, rfl⟩))
       go_round
       case rel => exact ⟨q + 1, by omega, by go_num, by rw [HAt.out]; go_num, HN'⟩
       case measure => simp [intOf]; omega
    ·have HQ : Hid (q = plc a) := Lib.hid (by omega)
     have HB := Lib.hid (beg_next a hlt)
     go_wp2_with (go_at_call 204; refine (rplaces_any _ _).mono ?_; rintro e w' ⟨rfl, rfl⟩)
     go_round
     case rel => exact ⟨a + 1, by omega, by omega, by go_num, by rw [show ((a + 1 : Nat) : Int) = (a : Int) + 1 from rfl, HB.out, ← HQ.out, HM.out], Lib.hid (HN.out.next HQ.out)⟩
     case measure => simp [intOf]; omega
  ·have HF : Hid (firstS r p = -1) := by
    obtain rfl : a = 6 := by omega
    exact Lib.hid HN.out.end_
   go_wp2_with fail
   go_ret
   exact ⟨by rw [HF.out]; rfl, rfl⟩
end
section
open Go Go.RowKit
theorem read_fail {m : DM} {s : Int} (h : (m.read s).2 ≠ 0) : (m.read s).1 = [] := by
 unfold DM.read at h ⊢
 by_cases h1 : m.up = false
 ·rw [if_pos h1]
 ·rw [if_neg h1] at h ⊢
  by_cases h2 : m.has s = false
  ·rw [if_pos h2]
  ·rw [if_neg h2] at h ⊢
   cases hl : lastW m.waits s.toNat with
   | some b => rw [hl] at h; exact absurd rfl h
   | none =>
    rw [hl] at h
    dsimp only at h ⊢
    by_cases h3 : m.lost.getD s.toNat false = true
    ·rw [if_pos h3]
    ·rw [if_neg h3] at h; exact absurd rfl h
theorem nil_mfl (r g p : Int) (k : Nat) : mfl [] r g p k = 0 := no_copy (by rw [nil_bad]; omega) k
theorem nil_mbl (r g p : Int) : mbl [] r g p = [] := by
 have h : mineB [] r g p = false := mineB_bad (size_bad (by decide))
 unfold mbl
 rw [if_neg (by rw [h]; simp)]
theorem first_le (g p : Int) : firstS g p ≤ 9223372036854775807 := by
 have := firstS_le g p
 omega
set_option maxHeartbeats 800000 in
theorem rcmine_of {w : World} {d : Nat} {p : Nat → Nat} {m : DM} (h : RD w d p m) (r g pl : Int) (hfew : m.waits.length ≤ 1000000) :
 Calls Tryz.prog 161 #[.pointer (some ⟨d, 0, none⟩), .int .i64 r, .int .i64 g, .int .i64 pl] w fun e w' => ∃ A N c, e = .returned (.tuple #[.int .u8 (stM (m.cb g pl) r g pl : Nat), .agg #[.int .i64 (mfl (m.cb g pl) r g pl 0 : Nat), .int .i64 (mfl (m.cb g pl) r g pl 1 : Nat), .int .i64 (mfl (m.cb g pl) r g pl 2 : Nat), .int .i64 (mfl (m.cb g pl) r g pl 3 : Nat), .int .i64 (mfl (m.cb g pl) r g pl 4 : Nat)], .slice A N c]) ∧ By w' A N c (mbl (m.cb g pl) r g pl) ∧ Ext w w' := by
 have hrd := fun V (hx : Ext w V) => rread_out (h.ext hx) (firstS g pl) (first_le g pl) hfew
 have HRD := Lib.hid hrd
 unfold DM.cb
 have HER : Hid ((m.read (firstS g pl)).2 ≠ 0 → (m.read (firstS g pl)).1 = []) := Lib.hid read_fail
 obtain ⟨S, hS⟩ : ∃ S, firstS g pl = S := ⟨_, rfl⟩
 have HS := Lib.hid hS
 rw [hS] at HRD HER ⊢
 obtain ⟨x, hx⟩ : ∃ x, (m.read S).1 = x := ⟨_, rfl⟩
 obtain ⟨E, hE⟩ : ∃ E, (m.read S).2 = E := ⟨_, rfl⟩
 rw [hx, hE] at HRD HER
 rw [hx]
 clear h hrd hS hx hE hfew
 have HX := Lib.hid ((Ext.refl w).alloc (.cells #[.int .i64 0, .int .i64 0, .int .i64 0, .int .i64 0, .int .i64 0] 44))
 have HT := Lib.hid (heap_alloc_new w (.cells #[.int .i64 0, .int .i64 0, .int .i64 0, .int .i64 0, .int .i64 0] 44))
 by_cases h0 : E = 0
 ·subst h0
  go_enter Tryz.func161, Tryz.ntmps161
  go_wp2_with fail
  refine (rfirst_any g pl _).mono ?_
  rw [HS.out]
  rintro e w1 ⟨rfl, rfl⟩
  go_wp2_with fail
  refine (HRD.out _ HX.out).mono ?_
  rintro e w2 ⟨A, n, c, rfl, hb, hx⟩
  have HB := Lib.hid hb
  have HT := Lib.hid ((hx.block _ (Array.getElem?_eq_some_iff.1 HT.out).1).trans HT.out)
  have HX := Lib.hid (HX.out.trans hx)
  clear hb hx
  go_wp2_with fail
  refine (rmine_any A n c x r g pl _ HB.out).mono ?_
  rintro e w3 ⟨A2, N, c2, rfl, hb, hf, hx⟩
  have HB2 := Lib.hid hb
  have HF2 : Hid (∀ g o, A2 = some ⟨g, o, none⟩ → 0 < N → w.heap.size ≠ g) := Lib.hid fun g o hA hN => by have h1 := hf g o hA hN; have h2 := (Array.getElem?_eq_some_iff.1 HT.out).1; omega
  have HT := Lib.hid ((hx.block _ (Array.getElem?_eq_some_iff.1 HT.out).1).trans HT.out)
  have HX := Lib.hid (HX.out.trans hx)
  clear hb hf hx
  obtain ⟨⟨d0, d1, d2, d3, d4⟩, f0, f1, f2, f3, f4⟩ := five_cells HT.out
  go_wp2_with fail
  refine bodyPost_ret (v := .tuple #[.int .u8 (stM x r g pl : Nat), .agg #[.int .i64 (mfl x r g pl 0 : Nat), .int .i64 (mfl x r g pl 1 : Nat), .int .i64 (mfl x r g pl 2 : Nat), .int .i64 (mfl x r g pl 3 : Nat), .int .i64 (mfl x r g pl 4 : Nat)], .slice A2 N c2]) ?_ rfl ?_
  ·simp [results, Tryz.results161, go_sem, d0, d1, d2, d3, d4]
  ·exact ⟨_, _, _, rfl, HB2.out.five HF2.out _ _ _ _ _, five_ext HX.out (Nat.le_refl _) _ _ _ _ _⟩
 ·have hne : (E != 0) = true := by simpa using h0
  have HXE := Lib.hid (HER.out h0)
  clear h0
  go_enter Tryz.func161, Tryz.ntmps161
  go_wp2_with fail
  refine (rfirst_any g pl _).mono ?_
  rw [HS.out]
  rintro e w1 ⟨rfl, rfl⟩
  go_wp2_with fail
  refine (HRD.out _ HX.out).mono ?_
  rintro e w2 ⟨A, n, c, rfl, hb, hx⟩
  have HB := Lib.hid hb
  have HT := Lib.hid ((hx.block _ (Array.getElem?_eq_some_iff.1 HT.out).1).trans HT.out)
  have HX := Lib.hid (HX.out.trans hx)
  clear hb hx
  obtain ⟨⟨d0, d1, d2, d3, d4⟩, f0, f1, f2, f3, f4⟩ := five_cells HT.out
  go_wp2_with fail
  refine bodyPost_ret (v := .tuple #[.int .u8 2, .agg #[.int .i64 0, .int .i64 0, .int .i64 0, .int .i64 0, .int .i64 0], .slice none 0 0]) ?_ rfl ?_
  ·simp [results, Tryz.results161, go_sem, d0, d1, d2, d3, d4]
  ·exact ⟨_, _, _, by rw [HXE.out, nil_bad, nil_mfl, nil_mfl, nil_mfl, nil_mfl, nil_mfl]; rfl, by rw [HXE.out, nil_mbl]; exact By.nil_ _, five_ext HX.out (Nat.le_refl _) _ _ _ _ _⟩
end
section
open Go Go.RowKit
theorem which_both {r g : Int} {x y : List Nat} (ha : stM x r g 0 = 1) (hb : stM y r g 1 = 1) : (mfl x r g 0 3 < mfl y r g 1 3 → atC r g x y = 1) ∧ (¬ mfl x r g 0 3 < mfl y r g 1 3 → atC r g x y = 0) := by
 unfold atC pickP lead0 lead1
 rw [ha, hb]
 refine ⟨fun h => ?_, fun h => ?_⟩
 ·rw [decide_eq_false (p := mfl y r g 1 3 ≤ mfl x r g 0 3) (by omega), decide_eq_true (p := mfl x r g 0 3 ≤ mfl y r g 1 3) (by omega)]
  rfl
 ·rw [decide_eq_true (p := mfl y r g 1 3 ≤ mfl x r g 0 3) (by omega)]
  rfl
theorem which_first {r g : Int} {x y : List Nat} (ha : stM x r g 0 = 1) (hb : stM y r g 1 ≠ 1) : atC r g x y = 0 := by
 unfold atC pickP lead0
 rw [ha, no_copy hb]
 simp
theorem which_second {r g : Int} {x y : List Nat} (ha : stM x r g 0 ≠ 1) (hb : stM y r g 1 = 1) : atC r g x y = 1 := by
 unfold atC pickP lead0 lead1
 rw [hb, no_copy ha, decide_eq_false ha]
 simp
theorem which_none {r g : Int} {x y : List Nat} (ha : stM x r g 0 ≠ 1) (hb : stM y r g 1 ≠ 1) : atC r g x y = -1 := by
 unfold atC pickP lead0 lead1
 rw [decide_eq_false ha, decide_eq_false hb]
 rfl
theorem cellE_at {r g : Int} {x y : List Nat} (h : atC r g x y ≠ -1) : cellE r g x y = 0 := by unfold cellE; rw [if_neg (fun k => h k.1)]
theorem cellE_blank {r g : Int} {x y : List Nat} (h : stM x r g 0 = 0 ∨ stM y r g 1 = 0) : cellE r g x y = 0 := by
 unfold cellE blankC pickP
 rcases h with h | h
 ·rw [h]; rw [if_neg (by simp)]
 ·rw [h]
  by_cases h0 : stM x r g 0 = 0
  ·rw [if_neg (by simp [h0])]
  ·rw [if_neg (by simp [h0])]
theorem cellE_bad {r g : Int} {x y : List Nat} (ha : stM x r g 0 ≠ 1) (hb : stM y r g 1 ≠ 1) (ha0 : stM x r g 0 ≠ 0) (hb0 : stM y r g 1 ≠ 0) : cellE r g x y = 70 := by
 unfold cellE blankC pickP
 rw [which_none ha hb, decide_eq_false ha0, decide_eq_false hb0]
 rfl
set_option maxHeartbeats 1600000 in
theorem rwhich_of {w : World} {d : Nat} {p : Nat → Nat} {m : DM} (h : RD w d p m) (r g : Int) (hfew : m.waits.length ≤ 1000000) :
 Calls Tryz.prog 160 #[.pointer (some ⟨d, 0, none⟩), .int .i64 r, .int .i64 g] w fun e w' => e = .returned (.tuple #[.int .i64 (atC r g (m.cb g 0) (m.cb g 1)), .int .i64 (cellE r g (m.cb g 0) (m.cb g 1))]) ∧ Ext w w' := by
 have H := Lib.hid h
 have hm0 := fun V (hx : Ext w V) => rcmine_of (h.ext hx) r g 0 hfew
 have hm1 := fun V (hx : Ext w V) => rcmine_of (h.ext hx) r g 1 hfew
 obtain ⟨x, hx⟩ : ∃ x, m.cb g 0 = x := ⟨_, rfl⟩
 obtain ⟨y, hy⟩ : ∃ y, m.cb g 1 = y := ⟨_, rfl⟩
 rw [hx] at hm0
 rw [hy] at hm1
 rw [hx, hy]
 have HM0 := Lib.hid hm0
 have HM1 := Lib.hid hm1
 clear h hm0 hm1 hx hy hfew
 by_cases ha : stM x r g 0 = 1
 ·by_cases hb : stM y r g 1 = 1
  ·by_cases hv : mfl x r g 0 3 < mfl y r g 1 3
   ·have HR : Hid (atC r g x y = 1 ∧ cellE r g x y = 0) := Lib.hid ⟨(which_both ha hb).1 hv, cellE_at (by rw [(which_both ha hb).1 hv]; omega)⟩
    have ea1 : (((stM x r g 0) : Int) == 1) = true := by rw [ha]; rfl
    have eb1 : (((stM y r g 1) : Int) == 1) = true := by rw [hb]; rfl
    rw [HR.out.1, HR.out.2]
    have HX := Lib.hid (Ext.refl w)
    generalize stM x r g 0 = sa at *
    generalize stM y r g 1 = sb at *
    generalize hva : mfl x r g 0 3 = va at *
    generalize hvb : mfl y r g 1 3 = vb at *
    clear hva hvb ha hb
    go_enter Tryz.func160, Tryz.ntmps160
    go_wp2_with fail
    refine (HM0.out _ HX.out).mono ?_
    rintro e w1 ⟨A0, N0, k0, rfl, _, hx⟩
    have HX := Lib.hid (HX.out.trans hx)
    have HX := Lib.hid (HX.out.alloc (.cells #[.int .i64 (mfl x r g 0 0 : Nat), .int .i64 (mfl x r g 0 1 : Nat), .int .i64 (mfl x r g 0 2 : Nat), .int .i64 (va : Nat), .int .i64 (mfl x r g 0 4 : Nat)] 44))
    have HT0 := Lib.hid (heap_alloc_new w1 (.cells #[.int .i64 (mfl x r g 0 0 : Nat), .int .i64 (mfl x r g 0 1 : Nat), .int .i64 (mfl x r g 0 2 : Nat), .int .i64 (va : Nat), .int .i64 (mfl x r g 0 4 : Nat)] 44))
    clear hx
    go_wp2_with fail
    refine (HM1.out _ HX.out).mono ?_
    rintro e w2 ⟨A1, N1, k1, rfl, _, hx⟩
    have HX := Lib.hid (HX.out.trans hx)
    have HT0 := Lib.hid ((hx.block _ (Array.getElem?_eq_some_iff.1 HT0.out).1).trans HT0.out)
    have HT0 := Lib.hid ((heap_alloc_old w2 (.cells #[.int .i64 (mfl y r g 1 0 : Nat), .int .i64 (mfl y r g 1 1 : Nat), .int .i64 (mfl y r g 1 2 : Nat), .int .i64 (vb : Nat), .int .i64 (mfl y r g 1 4 : Nat)] 44) (Array.getElem?_eq_some_iff.1 HT0.out).1).trans HT0.out)
    have HT1 := Lib.hid (heap_alloc_new w2 (.cells #[.int .i64 (mfl y r g 1 0 : Nat), .int .i64 (mfl y r g 1 1 : Nat), .int .i64 (mfl y r g 1 2 : Nat), .int .i64 (vb : Nat), .int .i64 (mfl y r g 1 4 : Nat)] 44))
    have HX := Lib.hid (HX.out.alloc (.cells #[.int .i64 (mfl y r g 1 0 : Nat), .int .i64 (mfl y r g 1 1 : Nat), .int .i64 (mfl y r g 1 2 : Nat), .int .i64 (vb : Nat), .int .i64 (mfl y r g 1 4 : Nat)] 44))
    clear hx
    obtain ⟨⟨_, _, _, x3, _⟩, _⟩ := five_cells HT0.out
    obtain ⟨⟨_, _, _, y3, _⟩, _⟩ := five_cells HT1.out
    go_wp2_with fail
    refine bodyPost_ret (v := .tuple #[.int .i64 (1), .int .i64 0]) (by simp [results, Tryz.results160, go_sem]) rfl ⟨rfl, HX.out⟩
   ·have HR : Hid (atC r g x y = 0 ∧ cellE r g x y = 0) := Lib.hid ⟨(which_both ha hb).2 hv, cellE_at (by rw [(which_both ha hb).2 hv]; omega)⟩
    have ea1 : (((stM x r g 0) : Int) == 1) = true := by rw [ha]; rfl
    have eb1 : (((stM y r g 1) : Int) == 1) = true := by rw [hb]; rfl
    rw [HR.out.1, HR.out.2]
    have HX := Lib.hid (Ext.refl w)
    generalize stM x r g 0 = sa at *
    generalize stM y r g 1 = sb at *
    generalize hva : mfl x r g 0 3 = va at *
    generalize hvb : mfl y r g 1 3 = vb at *
    clear hva hvb ha hb
    go_enter Tryz.func160, Tryz.ntmps160
    go_wp2_with fail
    refine (HM0.out _ HX.out).mono ?_
    rintro e w1 ⟨A0, N0, k0, rfl, _, hx⟩
    have HX := Lib.hid (HX.out.trans hx)
    have HX := Lib.hid (HX.out.alloc (.cells #[.int .i64 (mfl x r g 0 0 : Nat), .int .i64 (mfl x r g 0 1 : Nat), .int .i64 (mfl x r g 0 2 : Nat), .int .i64 (va : Nat), .int .i64 (mfl x r g 0 4 : Nat)] 44))
    have HT0 := Lib.hid (heap_alloc_new w1 (.cells #[.int .i64 (mfl x r g 0 0 : Nat), .int .i64 (mfl x r g 0 1 : Nat), .int .i64 (mfl x r g 0 2 : Nat), .int .i64 (va : Nat), .int .i64 (mfl x r g 0 4 : Nat)] 44))
    clear hx
    go_wp2_with fail
    refine (HM1.out _ HX.out).mono ?_
    rintro e w2 ⟨A1, N1, k1, rfl, _, hx⟩
    have HX := Lib.hid (HX.out.trans hx)
    have HT0 := Lib.hid ((hx.block _ (Array.getElem?_eq_some_iff.1 HT0.out).1).trans HT0.out)
    have HT0 := Lib.hid ((heap_alloc_old w2 (.cells #[.int .i64 (mfl y r g 1 0 : Nat), .int .i64 (mfl y r g 1 1 : Nat), .int .i64 (mfl y r g 1 2 : Nat), .int .i64 (vb : Nat), .int .i64 (mfl y r g 1 4 : Nat)] 44) (Array.getElem?_eq_some_iff.1 HT0.out).1).trans HT0.out)
    have HT1 := Lib.hid (heap_alloc_new w2 (.cells #[.int .i64 (mfl y r g 1 0 : Nat), .int .i64 (mfl y r g 1 1 : Nat), .int .i64 (mfl y r g 1 2 : Nat), .int .i64 (vb : Nat), .int .i64 (mfl y r g 1 4 : Nat)] 44))
    have HX := Lib.hid (HX.out.alloc (.cells #[.int .i64 (mfl y r g 1 0 : Nat), .int .i64 (mfl y r g 1 1 : Nat), .int .i64 (mfl y r g 1 2 : Nat), .int .i64 (vb : Nat), .int .i64 (mfl y r g 1 4 : Nat)] 44))
    clear hx
    obtain ⟨⟨_, _, _, x3, _⟩, _⟩ := five_cells HT0.out
    obtain ⟨⟨_, _, _, y3, _⟩, _⟩ := five_cells HT1.out
    go_wp2_with fail
    refine bodyPost_ret (v := .tuple #[.int .i64 (0), .int .i64 0]) (by simp [results, Tryz.results160, go_sem]) rfl ⟨rfl, HX.out⟩
  ·have HR : Hid (atC r g x y = 0 ∧ cellE r g x y = 0) := Lib.hid ⟨which_first ha hb, cellE_at (by rw [which_first ha hb]; omega)⟩
   have ea1 : (((stM x r g 0) : Int) == 1) = true := by rw [ha]; rfl
   have eb1 : (((stM y r g 1) : Int) == 1) = false := by rw [beq_eq_false_iff_ne]; intro h; exact hb (by omega)
   rw [HR.out.1, HR.out.2]
   have HX := Lib.hid (Ext.refl w)
   generalize stM x r g 0 = sa at *
   generalize stM y r g 1 = sb at *
   generalize hva : mfl x r g 0 3 = va at *
   generalize hvb : mfl y r g 1 3 = vb at *
   clear hva hvb ha hb
   go_enter Tryz.func160, Tryz.ntmps160
   go_wp2_with fail
   refine (HM0.out _ HX.out).mono ?_
   rintro e w1 ⟨A0, N0, k0, rfl, _, hx⟩
   have HX := Lib.hid (HX.out.trans hx)
   have HX := Lib.hid (HX.out.alloc (.cells #[.int .i64 (mfl x r g 0 0 : Nat), .int .i64 (mfl x r g 0 1 : Nat), .int .i64 (mfl x r g 0 2 : Nat), .int .i64 (va : Nat), .int .i64 (mfl x r g 0 4 : Nat)] 44))
   have HT0 := Lib.hid (heap_alloc_new w1 (.cells #[.int .i64 (mfl x r g 0 0 : Nat), .int .i64 (mfl x r g 0 1 : Nat), .int .i64 (mfl x r g 0 2 : Nat), .int .i64 (va : Nat), .int .i64 (mfl x r g 0 4 : Nat)] 44))
   clear hx
   go_wp2_with fail
   refine (HM1.out _ HX.out).mono ?_
   rintro e w2 ⟨A1, N1, k1, rfl, _, hx⟩
   have HX := Lib.hid (HX.out.trans hx)
   have HT0 := Lib.hid ((hx.block _ (Array.getElem?_eq_some_iff.1 HT0.out).1).trans HT0.out)
   have HT0 := Lib.hid ((heap_alloc_old w2 (.cells #[.int .i64 (mfl y r g 1 0 : Nat), .int .i64 (mfl y r g 1 1 : Nat), .int .i64 (mfl y r g 1 2 : Nat), .int .i64 (vb : Nat), .int .i64 (mfl y r g 1 4 : Nat)] 44) (Array.getElem?_eq_some_iff.1 HT0.out).1).trans HT0.out)
   have HT1 := Lib.hid (heap_alloc_new w2 (.cells #[.int .i64 (mfl y r g 1 0 : Nat), .int .i64 (mfl y r g 1 1 : Nat), .int .i64 (mfl y r g 1 2 : Nat), .int .i64 (vb : Nat), .int .i64 (mfl y r g 1 4 : Nat)] 44))
   have HX := Lib.hid (HX.out.alloc (.cells #[.int .i64 (mfl y r g 1 0 : Nat), .int .i64 (mfl y r g 1 1 : Nat), .int .i64 (mfl y r g 1 2 : Nat), .int .i64 (vb : Nat), .int .i64 (mfl y r g 1 4 : Nat)] 44))
   clear hx
   go_wp2_with fail
   refine bodyPost_ret (v := .tuple #[.int .i64 (0), .int .i64 0]) (by simp [results, Tryz.results160, go_sem]) rfl ⟨rfl, HX.out⟩
 ·by_cases hb : stM y r g 1 = 1
  ·have HR : Hid (atC r g x y = 1 ∧ cellE r g x y = 0) := Lib.hid ⟨which_second ha hb, cellE_at (by rw [which_second ha hb]; omega)⟩
   have ea1 : (((stM x r g 0) : Int) == 1) = false := by rw [beq_eq_false_iff_ne]; intro h; exact ha (by omega)
   have eb1 : (((stM y r g 1) : Int) == 1) = true := by rw [hb]; rfl
   rw [HR.out.1, HR.out.2]
   have HX := Lib.hid (Ext.refl w)
   generalize stM x r g 0 = sa at *
   generalize stM y r g 1 = sb at *
   generalize hva : mfl x r g 0 3 = va at *
   generalize hvb : mfl y r g 1 3 = vb at *
   clear hva hvb ha hb
   go_enter Tryz.func160, Tryz.ntmps160
   go_wp2_with fail
   refine (HM0.out _ HX.out).mono ?_
   rintro e w1 ⟨A0, N0, k0, rfl, _, hx⟩
   have HX := Lib.hid (HX.out.trans hx)
   have HX := Lib.hid (HX.out.alloc (.cells #[.int .i64 (mfl x r g 0 0 : Nat), .int .i64 (mfl x r g 0 1 : Nat), .int .i64 (mfl x r g 0 2 : Nat), .int .i64 (va : Nat), .int .i64 (mfl x r g 0 4 : Nat)] 44))
   have HT0 := Lib.hid (heap_alloc_new w1 (.cells #[.int .i64 (mfl x r g 0 0 : Nat), .int .i64 (mfl x r g 0 1 : Nat), .int .i64 (mfl x r g 0 2 : Nat), .int .i64 (va : Nat), .int .i64 (mfl x r g 0 4 : Nat)] 44))
   clear hx
   go_wp2_with fail
   refine (HM1.out _ HX.out).mono ?_
   rintro e w2 ⟨A1, N1, k1, rfl, _, hx⟩
   have HX := Lib.hid (HX.out.trans hx)
   have HT0 := Lib.hid ((hx.block _ (Array.getElem?_eq_some_iff.1 HT0.out).1).trans HT0.out)
   have HT0 := Lib.hid ((heap_alloc_old w2 (.cells #[.int .i64 (mfl y r g 1 0 : Nat), .int .i64 (mfl y r g 1 1 : Nat), .int .i64 (mfl y r g 1 2 : Nat), .int .i64 (vb : Nat), .int .i64 (mfl y r g 1 4 : Nat)] 44) (Array.getElem?_eq_some_iff.1 HT0.out).1).trans HT0.out)
   have HT1 := Lib.hid (heap_alloc_new w2 (.cells #[.int .i64 (mfl y r g 1 0 : Nat), .int .i64 (mfl y r g 1 1 : Nat), .int .i64 (mfl y r g 1 2 : Nat), .int .i64 (vb : Nat), .int .i64 (mfl y r g 1 4 : Nat)] 44))
   have HX := Lib.hid (HX.out.alloc (.cells #[.int .i64 (mfl y r g 1 0 : Nat), .int .i64 (mfl y r g 1 1 : Nat), .int .i64 (mfl y r g 1 2 : Nat), .int .i64 (vb : Nat), .int .i64 (mfl y r g 1 4 : Nat)] 44))
   clear hx
   go_wp2_with fail
   refine bodyPost_ret (v := .tuple #[.int .i64 (1), .int .i64 0]) (by simp [results, Tryz.results160, go_sem]) rfl ⟨rfl, HX.out⟩
  ·by_cases ha0 : stM x r g 0 = 0
   ·have HR : Hid (atC r g x y = -1 ∧ cellE r g x y = 0) := Lib.hid ⟨which_none ha hb, cellE_blank (.inl ha0)⟩
    have ea1 : (((stM x r g 0) : Int) == 1) = false := by rw [beq_eq_false_iff_ne]; intro h; exact ha (by omega)
    have eb1 : (((stM y r g 1) : Int) == 1) = false := by rw [beq_eq_false_iff_ne]; intro h; exact hb (by omega)
    have ea0 : (((stM x r g 0) : Int) == 0) = true := by rw [ha0]; rfl
    rw [HR.out.1, HR.out.2]
    have HX := Lib.hid (Ext.refl w)
    generalize stM x r g 0 = sa at *
    generalize stM y r g 1 = sb at *
    generalize hva : mfl x r g 0 3 = va at *
    generalize hvb : mfl y r g 1 3 = vb at *
    clear hva hvb ha hb ha0
    go_enter Tryz.func160, Tryz.ntmps160
    go_wp2_with fail
    refine (HM0.out _ HX.out).mono ?_
    rintro e w1 ⟨A0, N0, k0, rfl, _, hx⟩
    have HX := Lib.hid (HX.out.trans hx)
    have HX := Lib.hid (HX.out.alloc (.cells #[.int .i64 (mfl x r g 0 0 : Nat), .int .i64 (mfl x r g 0 1 : Nat), .int .i64 (mfl x r g 0 2 : Nat), .int .i64 (va : Nat), .int .i64 (mfl x r g 0 4 : Nat)] 44))
    have HT0 := Lib.hid (heap_alloc_new w1 (.cells #[.int .i64 (mfl x r g 0 0 : Nat), .int .i64 (mfl x r g 0 1 : Nat), .int .i64 (mfl x r g 0 2 : Nat), .int .i64 (va : Nat), .int .i64 (mfl x r g 0 4 : Nat)] 44))
    clear hx
    go_wp2_with fail
    refine (HM1.out _ HX.out).mono ?_
    rintro e w2 ⟨A1, N1, k1, rfl, _, hx⟩
    have HX := Lib.hid (HX.out.trans hx)
    have HT0 := Lib.hid ((hx.block _ (Array.getElem?_eq_some_iff.1 HT0.out).1).trans HT0.out)
    have HT0 := Lib.hid ((heap_alloc_old w2 (.cells #[.int .i64 (mfl y r g 1 0 : Nat), .int .i64 (mfl y r g 1 1 : Nat), .int .i64 (mfl y r g 1 2 : Nat), .int .i64 (vb : Nat), .int .i64 (mfl y r g 1 4 : Nat)] 44) (Array.getElem?_eq_some_iff.1 HT0.out).1).trans HT0.out)
    have HT1 := Lib.hid (heap_alloc_new w2 (.cells #[.int .i64 (mfl y r g 1 0 : Nat), .int .i64 (mfl y r g 1 1 : Nat), .int .i64 (mfl y r g 1 2 : Nat), .int .i64 (vb : Nat), .int .i64 (mfl y r g 1 4 : Nat)] 44))
    have HX := Lib.hid (HX.out.alloc (.cells #[.int .i64 (mfl y r g 1 0 : Nat), .int .i64 (mfl y r g 1 1 : Nat), .int .i64 (mfl y r g 1 2 : Nat), .int .i64 (vb : Nat), .int .i64 (mfl y r g 1 4 : Nat)] 44))
    clear hx
    go_wp2_with fail
    refine bodyPost_ret (v := .tuple #[.int .i64 (-1), .int .i64 0]) (by simp [results, Tryz.results160, go_sem]) rfl ⟨rfl, HX.out⟩
   ·by_cases hb0 : stM y r g 1 = 0
    ·have HR : Hid (atC r g x y = -1 ∧ cellE r g x y = 0) := Lib.hid ⟨which_none ha hb, cellE_blank (.inr hb0)⟩
     have ea1 : (((stM x r g 0) : Int) == 1) = false := by rw [beq_eq_false_iff_ne]; intro h; exact ha (by omega)
     have eb1 : (((stM y r g 1) : Int) == 1) = false := by rw [beq_eq_false_iff_ne]; intro h; exact hb (by omega)
     have ea0 : (((stM x r g 0) : Int) == 0) = false := by rw [beq_eq_false_iff_ne]; intro h; exact ha0 (by omega)
     have eb0 : (((stM y r g 1) : Int) == 0) = true := by rw [hb0]; rfl
     rw [HR.out.1, HR.out.2]
     have HX := Lib.hid (Ext.refl w)
     generalize stM x r g 0 = sa at *
     generalize stM y r g 1 = sb at *
     generalize hva : mfl x r g 0 3 = va at *
     generalize hvb : mfl y r g 1 3 = vb at *
     clear hva hvb ha hb ha0 hb0
     go_enter Tryz.func160, Tryz.ntmps160
     go_wp2_with fail
     refine (HM0.out _ HX.out).mono ?_
     rintro e w1 ⟨A0, N0, k0, rfl, _, hx⟩
     have HX := Lib.hid (HX.out.trans hx)
     have HX := Lib.hid (HX.out.alloc (.cells #[.int .i64 (mfl x r g 0 0 : Nat), .int .i64 (mfl x r g 0 1 : Nat), .int .i64 (mfl x r g 0 2 : Nat), .int .i64 (va : Nat), .int .i64 (mfl x r g 0 4 : Nat)] 44))
     have HT0 := Lib.hid (heap_alloc_new w1 (.cells #[.int .i64 (mfl x r g 0 0 : Nat), .int .i64 (mfl x r g 0 1 : Nat), .int .i64 (mfl x r g 0 2 : Nat), .int .i64 (va : Nat), .int .i64 (mfl x r g 0 4 : Nat)] 44))
     clear hx
     go_wp2_with fail
     refine (HM1.out _ HX.out).mono ?_
     rintro e w2 ⟨A1, N1, k1, rfl, _, hx⟩
     have HX := Lib.hid (HX.out.trans hx)
     have HT0 := Lib.hid ((hx.block _ (Array.getElem?_eq_some_iff.1 HT0.out).1).trans HT0.out)
     have HT0 := Lib.hid ((heap_alloc_old w2 (.cells #[.int .i64 (mfl y r g 1 0 : Nat), .int .i64 (mfl y r g 1 1 : Nat), .int .i64 (mfl y r g 1 2 : Nat), .int .i64 (vb : Nat), .int .i64 (mfl y r g 1 4 : Nat)] 44) (Array.getElem?_eq_some_iff.1 HT0.out).1).trans HT0.out)
     have HT1 := Lib.hid (heap_alloc_new w2 (.cells #[.int .i64 (mfl y r g 1 0 : Nat), .int .i64 (mfl y r g 1 1 : Nat), .int .i64 (mfl y r g 1 2 : Nat), .int .i64 (vb : Nat), .int .i64 (mfl y r g 1 4 : Nat)] 44))
     have HX := Lib.hid (HX.out.alloc (.cells #[.int .i64 (mfl y r g 1 0 : Nat), .int .i64 (mfl y r g 1 1 : Nat), .int .i64 (mfl y r g 1 2 : Nat), .int .i64 (vb : Nat), .int .i64 (mfl y r g 1 4 : Nat)] 44))
     clear hx
     go_wp2_with fail
     refine bodyPost_ret (v := .tuple #[.int .i64 (-1), .int .i64 0]) (by simp [results, Tryz.results160, go_sem]) rfl ⟨rfl, HX.out⟩
    ·have HR : Hid (atC r g x y = -1 ∧ cellE r g x y = 70) := Lib.hid ⟨which_none ha hb, cellE_bad ha hb ha0 hb0⟩
     have ea1 : (((stM x r g 0) : Int) == 1) = false := by rw [beq_eq_false_iff_ne]; intro h; exact ha (by omega)
     have eb1 : (((stM y r g 1) : Int) == 1) = false := by rw [beq_eq_false_iff_ne]; intro h; exact hb (by omega)
     have ea0 : (((stM x r g 0) : Int) == 0) = false := by rw [beq_eq_false_iff_ne]; intro h; exact ha0 (by omega)
     have eb0 : (((stM y r g 1) : Int) == 0) = false := by rw [beq_eq_false_iff_ne]; intro h; exact hb0 (by omega)
     rw [HR.out.1, HR.out.2]
     have HX := Lib.hid (Ext.refl w)
     generalize stM x r g 0 = sa at *
     generalize stM y r g 1 = sb at *
     generalize hva : mfl x r g 0 3 = va at *
     generalize hvb : mfl y r g 1 3 = vb at *
     clear hva hvb ha hb ha0 hb0
     go_enter Tryz.func160, Tryz.ntmps160
     go_wp2_with fail
     refine (HM0.out _ HX.out).mono ?_
     rintro e w1 ⟨A0, N0, k0, rfl, _, hx⟩
     have HX := Lib.hid (HX.out.trans hx)
     have HX := Lib.hid (HX.out.alloc (.cells #[.int .i64 (mfl x r g 0 0 : Nat), .int .i64 (mfl x r g 0 1 : Nat), .int .i64 (mfl x r g 0 2 : Nat), .int .i64 (va : Nat), .int .i64 (mfl x r g 0 4 : Nat)] 44))
     have HT0 := Lib.hid (heap_alloc_new w1 (.cells #[.int .i64 (mfl x r g 0 0 : Nat), .int .i64 (mfl x r g 0 1 : Nat), .int .i64 (mfl x r g 0 2 : Nat), .int .i64 (va : Nat), .int .i64 (mfl x r g 0 4 : Nat)] 44))
     clear hx
     go_wp2_with fail
     refine (HM1.out _ HX.out).mono ?_
     rintro e w2 ⟨A1, N1, k1, rfl, _, hx⟩
     have HX := Lib.hid (HX.out.trans hx)
     have HT0 := Lib.hid ((hx.block _ (Array.getElem?_eq_some_iff.1 HT0.out).1).trans HT0.out)
     have HT0 := Lib.hid ((heap_alloc_old w2 (.cells #[.int .i64 (mfl y r g 1 0 : Nat), .int .i64 (mfl y r g 1 1 : Nat), .int .i64 (mfl y r g 1 2 : Nat), .int .i64 (vb : Nat), .int .i64 (mfl y r g 1 4 : Nat)] 44) (Array.getElem?_eq_some_iff.1 HT0.out).1).trans HT0.out)
     have HT1 := Lib.hid (heap_alloc_new w2 (.cells #[.int .i64 (mfl y r g 1 0 : Nat), .int .i64 (mfl y r g 1 1 : Nat), .int .i64 (mfl y r g 1 2 : Nat), .int .i64 (vb : Nat), .int .i64 (mfl y r g 1 4 : Nat)] 44))
     have HX := Lib.hid (HX.out.alloc (.cells #[.int .i64 (mfl y r g 1 0 : Nat), .int .i64 (mfl y r g 1 1 : Nat), .int .i64 (mfl y r g 1 2 : Nat), .int .i64 (vb : Nat), .int .i64 (mfl y r g 1 4 : Nat)] 44))
     clear hx
     go_wp2_with fail
     refine bodyPost_ret (v := .tuple #[.int .i64 (-1), .int .i64 70]) (by simp [results, Tryz.results160, go_sem]) rfl ⟨rfl, HX.out⟩
end
section
open Go Go.RowKit
section
variable {w wr : World} {A X P : Option Addr} {na nx np : Nat} {lp : List Nat}
end
end
section
open Go Go.RowKit
structure Both (w0 w : World) (d r : Nat) (F : Nat → Prop) (p : Nat → Nat) (m m' : DM) : Prop where
 dk : DK w0 w d F m
 rd : RD w r p m'
 low : ∀ i, p i ≠ 0 → w0.heap.size ≤ i
 apart : ∀ i, p i ≠ 0 → ¬ F i
section
variable {w0 w : World} {d r : Nat} {F : Nat → Prop} {p : Nat → Nat} {m m' m2 : DM}
theorem Both.ext (h : Both w0 w d r F p m m') {w' : World} (k : Ext w w') : Both w0 w' d r F p m m' := ⟨h.dk.ext k, h.rd.ext k, h.low, h.apart⟩
theorem Both.heads (h : Both w0 w d r F p m m') {N : Nat} {b4 b5 : Bool} (hN : m'.waits.length = N) (h4 : m'.down = b4) (h5 : m'.dead = b5) : ∃ A c, w.cell? ⟨r, 3, none⟩ = some (.slice A N c) ∧ w.cell? ⟨r, 4, none⟩ = some (.bool b4) ∧ w.cell? ⟨r, 5, none⟩ = some (.bool b5) := by
 subst hN h4 h5
 obtain ⟨⟨q, hq⟩, _⟩ := h.rd
 obtain ⟨⟨_, _, _, d3, d4, d5, _⟩, _⟩ := hq.head.cells
 have hpl : ∃ A c, q.pv = .slice A m'.waits.length c := by
  obtain ⟨A, c, e, _, _⟩ := own_form2 hq.pen
  exact ⟨A, c, e⟩
 obtain ⟨A, c, e⟩ := hpl
 rw [e] at d3
 exact ⟨A, c, d3, d4, d5⟩
theorem Both.new {w1 w2 : World} {n : Nat} (hx : Ext w0 w) (hp : PDisk w1 d (fun k => w.heap.size ≤ k ∧ k < w1.heap.size) (DM.new n)) (hx1 : Ext w w1) (hr : RD w2 r p (DM.new n)) (hl : ∀ k, p k ≠ 0 → w1.heap.size ≤ k) (hx2 : Ext w1 w2) : Both w0 w2 d r (fun k => w.heap.size ≤ k ∧ k < w1.heap.size) p (DM.new n) (DM.new n) :=
 ⟨DK.ext ⟨hp, fun k hk => Nat.le_trans hx.size hk.1, hx.trans hx1⟩ hx2, hr, fun i hi => Nat.le_trans (hx.trans hx1).size (hl i hi), fun i hi hf => by have := hl i hi; omega⟩
end
end
end Go.Proofs.YtmpaocpgoihliaaGreatDoor

/-
  The contract of the document's own Open.
-/
import Derived.Test.YtmpaocpgoihliaaGreatDoorP00
import Derived.Test.YtmpaocpgoihliaaGreatDoorP10
import Derived.Test.YtmpaocpgoihliaaGreatDoorP11
import Derived.Test.YtmpaocpgoihliaaGreatDoorP12
import Derived.Test.YtmpaocpgoihliaaGreatDoorP23
import Derived.IntWalk
namespace Go.Proofs.YtmpaocpgoihliaaGreatDoor
set_option maxRecDepth 100000
section
open Go Go.RowKit
theorem bodyN_two {l : List Nat} {x0 x1 : Nat} (h0 : l[0]? = some x0) (h1 : l[1]? = some x1) : bodyN l = x0 + 256 * x1 := by
 unfold bodyN
 match l, h0, h1 with
 | a :: b :: l, h0, h1 =>
  simp at h0 h1
  subst h0; subst h1
  simp [num]
set_option maxHeartbeats 6400000 in
theorem ropen_early (A : Option Addr) (n cp : Nat) (l : List Nat) (w : World) (hb : By w A n cp l) (h : szB l = false ∨ zeroB l = true) :
 Calls Tryz.prog 223 #[.slice A n cp] w fun r w' => r = .returned (.tuple #[.int .u8 (stN l), .agg #[.int .i64 0, .int .i64 0, .int .i64 0, .int .i64 0, .int .i64 0], .slice none 0 0]) ∧ Ext w w' := by
 have hz := heap_alloc_new w (.cells #[.int .i64 0, .int .i64 0, .int .i64 0, .int .i64 0, .int .i64 0] 44)
 have hE := (Ext.refl w).alloc (.cells #[.int .i64 0, .int .i64 0, .int .i64 0, .int .i64 0, .int .i64 0] 44)
 have HN : Hid (l.length = n) := Lib.hid (Bs.len hb)
 have hmost : n ≤ 9223372036854775807 := Nat.le_trans (Bs.cap hb) (Bs.most hb)
 have HB := Lib.hid hb
 have HE := Lib.hid hE
 have HZ := Lib.hid hz
 obtain ⟨⟨c0, c1, c2, c3, c4⟩, f0, f1, f2, f3, f4⟩ := five_cells hz
 clear hb hE hz
 by_cases hs : szB l = false
 ·have HS := Lib.hid (stN_size hs)
  by_cases h64 : n % 64 = 0
  ·have hr := room_ws hs
   rw [HN.out] at hr
   have hw : wsN n = n / 64 := by unfold wsN; rw [if_pos h64]
   rw [hw] at hr
   have HR : Hid (roomN ((n : Int) / 64) = 0) := Lib.hid (by rw [show (n : Int) / 64 = ((n / 64 : Nat) : Int) from by omega]; exact hr)
   clear hs h hr hw
   go_enter Tryz.func223, Tryz.ntmps223
   go_wp2_with fail
   refine (rroom_any _ _).mono ?_
   rw [HR.out]
   rintro r w1 ⟨rfl, rfl⟩
   go_wp2_with fail
   refine bodyPost_ret (v := .tuple #[.int .u8 2, .agg #[.int .i64 0, .int .i64 0, .int .i64 0, .int .i64 0, .int .i64 0], .slice none 0 0]) ?_ rfl ?_
   ·simp [results, Tryz.results223, go_sem, c0, c1, c2, c3, c4]
   ·exact ⟨by rw [HS.out]; rfl, HE.out⟩
  ·clear hs h
   go_enter Tryz.func223, Tryz.ntmps223
   go_wp2_with fail
   refine bodyPost_ret (v := .tuple #[.int .u8 2, .agg #[.int .i64 0, .int .i64 0, .int .i64 0, .int .i64 0, .int .i64 0], .slice none 0 0]) ?_ rfl ?_
   ·simp [results, Tryz.results223, go_sem, c0, c1, c2, c3, c4]
   ·exact ⟨by rw [HS.out]; rfl, HE.out⟩
 ·have hs' : szB l = true := by simpa using hs
  have hz' : zeroB l = true := by rcases h with h | h; exact absurd h hs; exact h
  have HS := Lib.hid (stN_blank hs' hz')
  have hr := room_pos hs'
  rw [HN.out] at hr
  have hsz := szB_iff.1 hs'
  rw [HN.out] at hsz
  have hg : (((roomN ((n : Int) / 64) : Nat) : Int) == 0) = false := by
   rw [show (n : Int) / 64 = ((n / 64 : Nat) : Int) from by omega]
   simpa using hr
  have h64 : n % 64 = 0 := by omega
  have HZB := Lib.hid hz'
  clear hs h hs' hz' hr hsz
  go_enter Tryz.func223, Tryz.ntmps223
  go_wp2_with fail
  refine (rroom_any _ _).mono ?_
  rintro r w1 ⟨rfl, rfl⟩
  generalize roomN ((n : Int) / 64) = R at *
  go_wp2_with fail
  refine (blank_any A n cp l _ (HB.out.ext HE.out)).mono ?_
  rw [HZB.out]
  rintro r w1 ⟨rfl, rfl⟩
  go_wp2_with fail
  refine bodyPost_ret (v := .tuple #[.int .u8 0, .agg #[.int .i64 0, .int .i64 0, .int .i64 0, .int .i64 0, .int .i64 0], .slice none 0 0]) ?_ rfl ?_
  ·simp [results, Tryz.results223, go_sem, c0, c1, c2, c3, c4]
  ·exact ⟨by rw [HS.out]; rfl, HE.out⟩
set_option maxHeartbeats 6400000 in
theorem ropen_64 (A : Option Addr) (cp : Nat) (l : List Nat) (w : World) (hb : By w A 64 cp l) (hzb : zeroB l = false) :
 Calls Tryz.prog 223 #[.slice A 64 cp] w fun r w' => ∃ A' N c', r = .returned (.tuple #[.int .u8 (stN l), .agg #[.int .i64 (ofl l 0), .int .i64 (ofl l 1), .int .i64 (ofl l 2), .int .i64 (ofl l 3), .int .i64 (ofl l 4)], .slice A' N c']) ∧ By w' A' N c' (obl l) ∧ (∀ g o, A' = some ⟨g, o, none⟩ → 0 < N → w.heap.size ≤ g) ∧ Ext w w' := by
 have hz := heap_alloc_new w (.cells #[.int .i64 0, .int .i64 0, .int .i64 0, .int .i64 0, .int .i64 0] 44)
 have hE := (Ext.refl w).alloc (.cells #[.int .i64 0, .int .i64 0, .int .i64 0, .int .i64 0, .int .i64 0] 44)
 have hlen : l.length = 64 := Bs.len hb
 have hcap : 64 ≤ cp := Bs.cap hb
 have hmost := Bs.most hb
 have hszB : szB l = true := szB_iff.2 (by omega)
 have HSZ := Lib.hid hszB
 have HLen : Hid (l.length = 64) := Lib.hid hlen
 obtain ⟨g, o, x0, hA, hgB, h0, hx0, c0⟩ := hb.rd.at_ (k := 0) (by omega)
 subst hA
 obtain ⟨g', o', x1, hA, _, h1, hx1, c1⟩ := hb.rd.at_ (k := 1) (by omega)
 injection hA with hA; injection hA with hA1 hA2; subst hA1; subst hA2
 have hbn := bodyN_two h0 h1
 have hc0 := Ext.cell hE c0
 have hc1 := Ext.cell hE c1
 rw [Nat.add_zero] at hc0
 have HSub : Hid (By w (some ⟨g, o + 2, none⟩) 15 (cp - 2) (tagOf l)) := Lib.hid (hb.sub 2 15 (cp - 2) (by omega) (by omega) (by omega))
 have HB := Lib.hid hb
 have HE := Lib.hid hE
 have HZ := Lib.hid hz
 have HZB := Lib.hid hzb
 have HBN := Lib.hid hbn
 clear hb hE hz hzb hlen hszB h0 h1 c0 c1 hbn hgB
 go_enter Tryz.func223, Tryz.ntmps223
 go_wp2_with fail
 refine (rroom_any _ _).mono ?_
 rw [show roomN 1 = 43 from rfl]
 rintro r w1 ⟨rfl, rfl⟩
 go_wp2_with fail
 refine (blank_any _ 64 cp l _ (HB.out.ext HE.out)).mono ?_
 rw [HZB.out]
 rintro r w1 ⟨rfl, rfl⟩
 go_wp2_with fail
 generalize (w.alloc (.cells #[.int .i64 0, .int .i64 0, .int .i64 0, .int .i64 0, .int .i64 0] 44)) = W at *
 have e0 : IntKind.i64.wrap (x0 : Int) = (x0 : Int) := IntWalk.i64_in _ (by omega)
 have e1 : IntKind.i64.wrap (x1 : Int) = (x1 : Int) := IntWalk.i64_in _ (by omega)
 have e2 : IntKind.i64.wrap (256 * (x1 : Int)) = 256 * (x1 : Int) := IntWalk.i64_in _ (by omega)
 have e3 : IntKind.i64.wrap ((x0 : Int) + 256 * (x1 : Int)) = ((x0 + 256 * x1 : Nat) : Int) := by rw [IntWalk.i64_in _ (by omega)]; omega
 go_region_held3 (fun w' => w'.cell? ⟨g, o, none⟩ = some (.int .u8 x0) ∧ w'.cell? ⟨g, o + 1, none⟩ = some (.int .u8 x1))
  (first | with_reducible exact ⟨hc0, hc1⟩ | go_keep)
  (first | (go_at_call 0; fail))
 clear e0 e1 e2 e3 hc0 hc1
 rw [show (x0 : Int) + 256 * (x1 : Int) = ((bodyN l : Nat) : Int) from by rw [HBN.out]; omega]
 have hx : Ext W W.drew := (Ext.refl W).drew
 have HE := Lib.hid (HE.out.trans hx)
 have HZ := Lib.hid ((hx.block _ (Array.getElem?_eq_some_iff.1 HZ.out).1).trans HZ.out)
 generalize W.drew = W1 at *
 clear hx
 have hN16 : bodyN l < 65536 := by rw [HBN.out]; omega
 generalize hbN : bodyN l = N at *
 have HBqN := Lib.hid hbN
 clear hbN HBN
 have hs3 : ∀ w, (Instr.slice 45 (.slice (some ⟨g, o, none⟩) 64 cp) (some (.int .i64 2)) (some (.int .i64 17)) none).run Tryz.prog w = .ok (.slice (some ⟨g, o + 2, none⟩) 15 (cp - 2)) w := cut_mid g o 64 cp 2 17 (by omega) (by omega) (by omega)
 go_wp2_with fail
 refine (rparse_any _ 15 (cp - 2) (tagOf l) _ (HSub.out.ext HE.out) (by omega)).mono ?_
 by_cases hv : PV (tagOf l) = true
 ·rw [pe_yes hv]
  rintro r w2 ⟨rfl, hx2⟩
  have hx := hx2.alloc (.cells #[.int .i64 (pf (tagOf l) 0), .int .i64 (pf (tagOf l) 1), .int .i64 (pf (tagOf l) 2), .int .i64 (pf (tagOf l) 3), .int .i64 (pf (tagOf l) 4)] 44)
  have hr2 := heap_alloc_new w2 (.cells #[.int .i64 (pf (tagOf l) 0), .int .i64 (pf (tagOf l) 1), .int .i64 (pf (tagOf l) 2), .int .i64 (pf (tagOf l) 3), .int .i64 (pf (tagOf l) 4)] 44)
  have HZ1 : Hid (W1.heap[w.heap.size]? = _) := HZ
  have hlt1 := Ext.size (show Ext W1 w2 from hx2)
  have hz1 := (hx.block _ (Array.getElem?_eq_some_iff.1 HZ.out).1).trans HZ.out
  have HE := Lib.hid (HE.out.trans hx)
  have HZ := Lib.hid hz1
  have HR2 := Lib.hid hr2
  obtain ⟨⟨c0, c1, c2, c3, c4⟩, f0, f1, f2, f3, f4⟩ := five_cells hz1
  clear hx hz1 hr2 hs3
  by_cases hle : N ≤ 43
  ·have hNc : (17 : Int) + (N : Int) = ((17 + N : Nat) : Int) := by omega
   have hs4 : ∀ w, (Instr.slice 45 (.slice (some ⟨g, o, none⟩) 64 cp) (some (.int .i64 17)) (some (.int .i64 (17 + (N : Int)))) none).run Tryz.prog w = .ok (.slice (some ⟨g, o + 17, none⟩) N (cp - 17)) w := fun w => by
    have h := cut_mid g o 64 cp 17 (17 + N) (by omega) (by omega) (by omega) w
    rw [show 17 + N - 17 = N from by omega] at h
    rw [hNc]
    exact h
   have ho : okB l = true := okB_yes hv (by rw [HLen.out, HBqN.out]; omega)
   have hre : reE l = 0 := by
    unfold reE
    rw [qf_yes ho, qf_yes ho, qf_yes ho, qf_yes ho, qf_yes ho, ql_yes ho, bodyOf_len (okB_parts ho).2, HBqN.out, HLen.out]
    exact sealE_yes (by decide) (may_pf hv) (by show N ≤ 43; exact hle)
   have hgood := re_yes HSZ.out HB.out.rd.lt hre
   have HRE : Hid (sealE (pf (tagOf l) 0) (pf (tagOf l) 1) (pf (tagOf l) 2) (pf (tagOf l) 3) (pf (tagOf l) 4) N 1 = 0) := Lib.hid (by
    have := hre
    unfold reE at this
    rw [qf_yes ho, qf_yes ho, qf_yes ho, qf_yes ho, qf_yes ho, ql_yes ho, bodyOf_len (okB_parts ho).2, HBqN.out, HLen.out] at this
    exact this)
   have HRL : Hid (sealL (pf (tagOf l) 0) (pf (tagOf l) 1) (pf (tagOf l) 2) (pf (tagOf l) 3) (pf (tagOf l) 4) (bodyOf l) 1 = reL l) := Lib.hid (by
    unfold reL
    rw [qf_yes ho, qf_yes ho, qf_yes ho, qf_yes ho, qf_yes ho, ql_yes ho, HLen.out]
    rfl)
   have HBd : Hid (By w (some ⟨g, o + 17, none⟩) N (cp - 17) (bodyOf l)) := Lib.hid (by
    have := HB.out.sub 17 N (cp - 17) (by omega) (by omega) (by omega)
    unfold bodyOf
    rw [HBqN.out]
    exact this)
   have HGD := Lib.hid hgood
   clear hNc ho hre hgood hv
   go_wp2_with fail
   refine (rroom_any _ _).mono ?_
   rw [show roomN 1 = 43 from rfl]
   rintro r w3 ⟨rfl, rfl⟩
   go_wp2_with fail
   refine (copy_by _ (bodyOf l) N (cp - 17) _ (HBd.out.ext HE.out) (by omega)).mono ?_
   rintro r w4 ⟨A4, c4', rfl, hb4, hx, hown⟩
   have hge : ∀ g o, A4 = some ⟨g, o, none⟩ → 0 < N → w.heap.size + 1 ≤ g := by
    intro g o hA hN
    obtain ⟨g2, cap, hv2⟩ := Go.Joins.ownsRow_form hown hN
    injection hv2 with hv2 _ _
    rw [hA] at hv2
    injection hv2 with hv2
    injection hv2 with hv2 _
    subst hv2
    have h1 := (hown.lt g (by rw [hA]; rfl)).1
    have h2 := (Array.getElem?_eq_some_iff.1 HZ.out).1
    omega
   have HGe := Lib.hid hge
   have HB4 := Lib.hid hb4
   have hz1 := (hx.block _ (Array.getElem?_eq_some_iff.1 HZ.out).1).trans HZ.out
   have hr1 := (hx.block _ (Array.getElem?_eq_some_iff.1 HR2.out).1).trans HR2.out
   have HE := Lib.hid (HE.out.trans hx)
   have HZ := Lib.hid hz1
   have HR2 := Lib.hid hr1
   clear hx hown hge hb4 c0 c1 c2 c3 c4 f0 f1 f2 f3 f4 hs4
   obtain ⟨⟨d0, d1, d2, d3, d4⟩, _⟩ := five_cells hr1
   clear hz1 hr1
   go_wp2_with fail
   refine (rseal_any _ _ _ _ _ _ _ _ _ (bodyOf l) _ HB4.out).mono ?_
   rw [HRE.out, HRL.out]
   rintro r w5 ⟨A5, c5, rfl, hb5, hx⟩
   have HB5 := Lib.hid hb5
   have HB4 := Lib.hid (HB4.out.ext hx)
   have hz1 := (hx.block _ (Array.getElem?_eq_some_iff.1 HZ.out).1).trans HZ.out
   have hr1 := (hx.block _ (Array.getElem?_eq_some_iff.1 HR2.out).1).trans HR2.out
   have HE := Lib.hid (HE.out.trans hx)
   have HZ := Lib.hid hz1
   have HR2 := Lib.hid hr1
   clear hx hb5 d0 d1 d2 d3 d4 hz1 hr1
   generalize reL l = RL at *
   go_wp2_with fail
   refine (same_by _ _ RL l _ _ _ _ _ HB5.out (HB.out.ext HE.out)).mono ?_
   by_cases hg2 : RL = l
   ·rw [decide_eq_true hg2]
    have hgd : goodB l = true := by rw [HGD.out, decide_eq_true hg2]
    have HF : Hid (∀ k, pf (tagOf l) k = ofl l k) := Lib.hid fun k => (ofl_yes hgd k).symm
    have HQ : Hid (bodyOf l = obl l) := Lib.hid (obl_yes hgd).symm
    have HST := Lib.hid (stN_good hgd)
    clear hgd hg2
    rintro r w6 ⟨rfl, hx⟩
    have HB4 := Lib.hid (HB4.out.ext hx)
    have hz1 := (hx.block _ (Array.getElem?_eq_some_iff.1 HZ.out).1).trans HZ.out
    have hr1 := (hx.block _ (Array.getElem?_eq_some_iff.1 HR2.out).1).trans HR2.out
    have HE := Lib.hid (HE.out.trans hx)
    have HZ := Lib.hid hz1
    have HR2 := Lib.hid hr1
    obtain ⟨⟨c0, c1, c2, c3, c4⟩, f0, f1, f2, f3, f4⟩ := five_cells hz1
    obtain ⟨⟨d0, d1, d2, d3, d4⟩, _⟩ := five_cells hr1
    clear hx hz1 hr1
    go_wp2_with fail
    generalize hh2 : w2.heap.size = h2 at *
    generalize hh0 : w.heap.size = h0 at *
    have HN0 := Lib.hid hh0
    have hne : h0 ≠ h2 := by have := (Array.getElem?_eq_some_iff.1 HZ1.out).1; omega
    clear hh0 hh2
    go_region_held3 (fun w' => w'.cell? ⟨h2, 0, none⟩ = some (.int .i64 (pf (tagOf l) 0)) ∧ w'.cell? ⟨h2, 1, none⟩ = some (.int .i64 (pf (tagOf l) 1)) ∧ w'.cell? ⟨h2, 2, none⟩ = some (.int .i64 (pf (tagOf l) 2)) ∧ w'.cell? ⟨h2, 3, none⟩ = some (.int .i64 (pf (tagOf l) 3)) ∧ w'.cell? ⟨h2, 4, none⟩ = some (.int .i64 (pf (tagOf l) 4)))
     (first | with_reducible exact ⟨d0, d1, d2, d3, d4⟩ | with_reducible exact ⟨five_far_drew hne d0 _ _ _ _ _, five_far_drew hne d1 _ _ _ _ _, five_far_drew hne d2 _ _ _ _ _, five_far_drew hne d3 _ _ _ _ _, five_far_drew hne d4 _ _ _ _ _⟩ | go_keep)
     (first | (go_at_call 0; fail))
    have hrow := five_row HZ.out (.int .i64 (pf (tagOf l) 0)) (.int .i64 (pf (tagOf l) 1)) (.int .i64 (pf (tagOf l) 2)) (.int .i64 (pf (tagOf l) 3)) (.int .i64 (pf (tagOf l) 4))
    have hx := five_ext HE.out (g := h0) (Nat.le_of_eq HN0.out) (.int .i64 (pf (tagOf l) 0)) (.int .i64 (pf (tagOf l) 1)) (.int .i64 (pf (tagOf l) 2)) (.int .i64 (pf (tagOf l) 3)) (.int .i64 (pf (tagOf l) 4))
    have hby := HB4.out.five (h0 := h0) (fun g o hA hN => by have := HGe.out g o hA hN; omega) (.int .i64 (pf (tagOf l) 0)) (.int .i64 (pf (tagOf l) 1)) (.int .i64 (pf (tagOf l) 2)) (.int .i64 (pf (tagOf l) 3)) (.int .i64 (pf (tagOf l) 4))
    clear c0 c1 c2 c3 c4 f0 f1 f2 f3 f4 d0 d1 d2 d3 d4
    generalize (((((w6.setCell ⟨h0, 0, none⟩ (.int .i64 (pf (tagOf l) 0))).setCell ⟨h0, 1, none⟩ (.int .i64 (pf (tagOf l) 1))).setCell ⟨h0, 2, none⟩ (.int .i64 (pf (tagOf l) 2))).setCell ⟨h0, 3, none⟩ (.int .i64 (pf (tagOf l) 3))).setCell ⟨h0, 4, none⟩ (.int .i64 (pf (tagOf l) 4))) = V at hrow hx hby ⊢
    obtain ⟨⟨e0, e1, e2, e3, e4⟩, _⟩ := five_cells hrow
    have HB4 := Lib.hid (hby.ext ((Ext.refl V).drew))
    have HX := Lib.hid hx.drew
    clear hrow hx hby
    go_wp2_with fail
    refine bodyPost_ret (v := .tuple #[.int .u8 1, .agg #[.int .i64 (pf (tagOf l) 0), .int .i64 (pf (tagOf l) 1), .int .i64 (pf (tagOf l) 2), .int .i64 (pf (tagOf l) 3), .int .i64 (pf (tagOf l) 4)], .slice A4 N c4']) ?_ rfl ?_
    ·simp [results, Tryz.results223, go_sem, e0, e1, e2, e3, e4]
    ·exact ⟨A4, N, c4', by rw [HF.out, HF.out, HF.out, HF.out, HF.out, HST.out]; rfl, by rw [← HQ.out]; exact HB4.out, fun g o hA hN => by have h1 := HGe.out g o hA hN; have h2 := HN0.out; omega, HX.out⟩
   ·rw [decide_eq_false hg2]
    have hgd : goodB l = false := by rw [HGD.out, decide_eq_false hg2]
    have HF : Hid (∀ k, ofl l k = 0) := Lib.hid (ofl_no hgd)
    have HQ : Hid (obl l = []) := Lib.hid (obl_no hgd)
    have HST := Lib.hid (stN_bad HZB.out hgd)
    clear hgd hg2
    rintro r w6 ⟨rfl, hx⟩
    have hz1 := (hx.block _ (Array.getElem?_eq_some_iff.1 HZ.out).1).trans HZ.out
    have HE := Lib.hid (HE.out.trans hx)
    obtain ⟨⟨c0, c1, c2, c3, c4⟩, f0, f1, f2, f3, f4⟩ := five_cells hz1
    clear hx hz1
    go_wp2_with fail
    refine bodyPost_ret (v := .tuple #[.int .u8 2, .agg #[.int .i64 0, .int .i64 0, .int .i64 0, .int .i64 0, .int .i64 0], .slice none 0 0]) ?_ rfl ?_
    ·simp [results, Tryz.results223, go_sem, c0, c1, c2, c3, c4]
    ·exact ⟨none, 0, 0, by rw [HF.out, HF.out, HF.out, HF.out, HF.out, HST.out]; rfl, by rw [HQ.out]; exact By.nil_ _, fun g o hA hN => absurd hN (by omega), five_ext HE.out (Nat.le_refl _) _ _ _ _ _⟩
  ·have hgd : goodB l = false := by
    by_cases hg : goodB l = true
    ·have h3 := (good_parts hg).2.2.1
     rw [HLen.out, HBqN.out] at h3
     exact absurd (show N ≤ 43 from h3) hle
    ·simpa using hg
   have HF : Hid (∀ k, ofl l k = 0) := Lib.hid (ofl_no hgd)
   have HQ : Hid (obl l = []) := Lib.hid (obl_no hgd)
   have HST := Lib.hid (stN_bad HZB.out hgd)
   clear hgd hv
   go_wp2_with fail
   refine (rroom_any _ _).mono ?_
   rw [show roomN 1 = 43 from rfl]
   rintro r w3 ⟨rfl, rfl⟩
   go_wp2_with fail
   refine bodyPost_ret (v := .tuple #[.int .u8 2, .agg #[.int .i64 0, .int .i64 0, .int .i64 0, .int .i64 0, .int .i64 0], .slice none 0 0]) ?_ rfl ?_
   ·simp [results, Tryz.results223, go_sem, c0, c1, c2, c3, c4]
   ·exact ⟨none, 0, 0, by rw [HF.out, HF.out, HF.out, HF.out, HF.out, HST.out]; rfl, by rw [HQ.out]; exact By.nil_ _, fun g o hA hN => absurd hN (by omega), five_ext HE.out (Nat.le_refl _) _ _ _ _ _⟩
 ·have hv' : PV (tagOf l) = false := by simpa using hv
  have hgd : goodB l = false := by
   by_cases hg : goodB l = true
   ·rw [(good_parts hg).2.1] at hv'; cases hv'
   ·simpa using hg
  have HF : Hid (∀ k, ofl l k = 0) := Lib.hid (ofl_no hgd)
  have HQ : Hid (obl l = []) := Lib.hid (obl_no hgd)
  have HST := Lib.hid (stN_bad HZB.out hgd)
  rw [pe_no hv', pf_no hv', pf_no hv', pf_no hv', pf_no hv', pf_no hv']
  rintro r w2 ⟨rfl, hx2⟩
  have hx := hx2.alloc (.cells #[.int .i64 0, .int .i64 0, .int .i64 0, .int .i64 0, .int .i64 0] 44)
  have hz1 := (hx.block _ (Array.getElem?_eq_some_iff.1 HZ.out).1).trans HZ.out
  have HE := Lib.hid (HE.out.trans hx)
  obtain ⟨⟨c0, c1, c2, c3, c4⟩, f0, f1, f2, f3, f4⟩ := five_cells hz1
  clear hx hz1 hs3 hv hv' hgd
  go_wp2_with fail
  refine bodyPost_ret (v := .tuple #[.int .u8 2, .agg #[.int .i64 0, .int .i64 0, .int .i64 0, .int .i64 0, .int .i64 0], .slice none 0 0]) ?_ rfl ?_
  ·simp [results, Tryz.results223, go_sem, c0, c1, c2, c3, c4]
  ·exact ⟨none, 0, 0, by rw [HF.out, HF.out, HF.out, HF.out, HF.out, HST.out]; rfl, by rw [HQ.out]; exact By.nil_ _, fun g o hA hN => absurd hN (by omega), five_ext HE.out (Nat.le_refl _) _ _ _ _ _⟩
set_option maxHeartbeats 6400000 in
theorem ropen_128 (A : Option Addr) (cp : Nat) (l : List Nat) (w : World) (hb : By w A 128 cp l) (hzb : zeroB l = false) :
 Calls Tryz.prog 223 #[.slice A 128 cp] w fun r w' => ∃ A' N c', r = .returned (.tuple #[.int .u8 (stN l), .agg #[.int .i64 (ofl l 0), .int .i64 (ofl l 1), .int .i64 (ofl l 2), .int .i64 (ofl l 3), .int .i64 (ofl l 4)], .slice A' N c']) ∧ By w' A' N c' (obl l) ∧ (∀ g o, A' = some ⟨g, o, none⟩ → 0 < N → w.heap.size ≤ g) ∧ Ext w w' := by
 have hz := heap_alloc_new w (.cells #[.int .i64 0, .int .i64 0, .int .i64 0, .int .i64 0, .int .i64 0] 44)
 have hE := (Ext.refl w).alloc (.cells #[.int .i64 0, .int .i64 0, .int .i64 0, .int .i64 0, .int .i64 0] 44)
 have hlen : l.length = 128 := Bs.len hb
 have hcap : 128 ≤ cp := Bs.cap hb
 have hmost := Bs.most hb
 have hszB : szB l = true := szB_iff.2 (by omega)
 have HSZ := Lib.hid hszB
 have HLen : Hid (l.length = 128) := Lib.hid hlen
 obtain ⟨g, o, x0, hA, hgB, h0, hx0, c0⟩ := hb.rd.at_ (k := 0) (by omega)
 subst hA
 obtain ⟨g', o', x1, hA, _, h1, hx1, c1⟩ := hb.rd.at_ (k := 1) (by omega)
 injection hA with hA; injection hA with hA1 hA2; subst hA1; subst hA2
 have hbn := bodyN_two h0 h1
 have hc0 := Ext.cell hE c0
 have hc1 := Ext.cell hE c1
 rw [Nat.add_zero] at hc0
 have HSub : Hid (By w (some ⟨g, o + 2, none⟩) 15 (cp - 2) (tagOf l)) := Lib.hid (hb.sub 2 15 (cp - 2) (by omega) (by omega) (by omega))
 have HB := Lib.hid hb
 have HE := Lib.hid hE
 have HZ := Lib.hid hz
 have HZB := Lib.hid hzb
 have HBN := Lib.hid hbn
 clear hb hE hz hzb hlen hszB h0 h1 c0 c1 hbn hgB
 go_enter Tryz.func223, Tryz.ntmps223
 go_wp2_with fail
 refine (rroom_any _ _).mono ?_
 rw [show roomN 2 = 88 from rfl]
 rintro r w1 ⟨rfl, rfl⟩
 go_wp2_with fail
 refine (blank_any _ 128 cp l _ (HB.out.ext HE.out)).mono ?_
 rw [HZB.out]
 rintro r w1 ⟨rfl, rfl⟩
 go_wp2_with fail
 generalize (w.alloc (.cells #[.int .i64 0, .int .i64 0, .int .i64 0, .int .i64 0, .int .i64 0] 44)) = W at *
 have e0 : IntKind.i64.wrap (x0 : Int) = (x0 : Int) := IntWalk.i64_in _ (by omega)
 have e1 : IntKind.i64.wrap (x1 : Int) = (x1 : Int) := IntWalk.i64_in _ (by omega)
 have e2 : IntKind.i64.wrap (256 * (x1 : Int)) = 256 * (x1 : Int) := IntWalk.i64_in _ (by omega)
 have e3 : IntKind.i64.wrap ((x0 : Int) + 256 * (x1 : Int)) = ((x0 + 256 * x1 : Nat) : Int) := by rw [IntWalk.i64_in _ (by omega)]; omega
 go_region_held3 (fun w' => w'.cell? ⟨g, o, none⟩ = some (.int .u8 x0) ∧ w'.cell? ⟨g, o + 1, none⟩ = some (.int .u8 x1))
  (first | with_reducible exact ⟨hc0, hc1⟩ | go_keep)
  (first | (go_at_call 0; fail))
 clear e0 e1 e2 e3 hc0 hc1
 rw [show (x0 : Int) + 256 * (x1 : Int) = ((bodyN l : Nat) : Int) from by rw [HBN.out]; omega]
 have hx : Ext W W.drew := (Ext.refl W).drew
 have HE := Lib.hid (HE.out.trans hx)
 have HZ := Lib.hid ((hx.block _ (Array.getElem?_eq_some_iff.1 HZ.out).1).trans HZ.out)
 generalize W.drew = W1 at *
 clear hx
 have hN16 : bodyN l < 65536 := by rw [HBN.out]; omega
 generalize hbN : bodyN l = N at *
 have HBqN := Lib.hid hbN
 clear hbN HBN
 have hs3 : ∀ w, (Instr.slice 45 (.slice (some ⟨g, o, none⟩) 128 cp) (some (.int .i64 2)) (some (.int .i64 17)) none).run Tryz.prog w = .ok (.slice (some ⟨g, o + 2, none⟩) 15 (cp - 2)) w := cut_mid g o 128 cp 2 17 (by omega) (by omega) (by omega)
 go_wp2_with fail
 refine (rparse_any _ 15 (cp - 2) (tagOf l) _ (HSub.out.ext HE.out) (by omega)).mono ?_
 by_cases hv : PV (tagOf l) = true
 ·rw [pe_yes hv]
  rintro r w2 ⟨rfl, hx2⟩
  have hx := hx2.alloc (.cells #[.int .i64 (pf (tagOf l) 0), .int .i64 (pf (tagOf l) 1), .int .i64 (pf (tagOf l) 2), .int .i64 (pf (tagOf l) 3), .int .i64 (pf (tagOf l) 4)] 44)
  have hr2 := heap_alloc_new w2 (.cells #[.int .i64 (pf (tagOf l) 0), .int .i64 (pf (tagOf l) 1), .int .i64 (pf (tagOf l) 2), .int .i64 (pf (tagOf l) 3), .int .i64 (pf (tagOf l) 4)] 44)
  have HZ1 : Hid (W1.heap[w.heap.size]? = _) := HZ
  have hlt1 := Ext.size (show Ext W1 w2 from hx2)
  have hz1 := (hx.block _ (Array.getElem?_eq_some_iff.1 HZ.out).1).trans HZ.out
  have HE := Lib.hid (HE.out.trans hx)
  have HZ := Lib.hid hz1
  have HR2 := Lib.hid hr2
  obtain ⟨⟨c0, c1, c2, c3, c4⟩, f0, f1, f2, f3, f4⟩ := five_cells hz1
  clear hx hz1 hr2 hs3
  by_cases hle : N ≤ 88
  ·have hNc : (17 : Int) + (N : Int) = ((17 + N : Nat) : Int) := by omega
   have hs4 : ∀ w, (Instr.slice 45 (.slice (some ⟨g, o, none⟩) 128 cp) (some (.int .i64 17)) (some (.int .i64 (17 + (N : Int)))) none).run Tryz.prog w = .ok (.slice (some ⟨g, o + 17, none⟩) N (cp - 17)) w := fun w => by
    have h := cut_mid g o 128 cp 17 (17 + N) (by omega) (by omega) (by omega) w
    rw [show 17 + N - 17 = N from by omega] at h
    rw [hNc]
    exact h
   have ho : okB l = true := okB_yes hv (by rw [HLen.out, HBqN.out]; omega)
   have hre : reE l = 0 := by
    unfold reE
    rw [qf_yes ho, qf_yes ho, qf_yes ho, qf_yes ho, qf_yes ho, ql_yes ho, bodyOf_len (okB_parts ho).2, HBqN.out, HLen.out]
    exact sealE_yes (by decide) (may_pf hv) (by show N ≤ 88; exact hle)
   have hgood := re_yes HSZ.out HB.out.rd.lt hre
   have HRE : Hid (sealE (pf (tagOf l) 0) (pf (tagOf l) 1) (pf (tagOf l) 2) (pf (tagOf l) 3) (pf (tagOf l) 4) N 2 = 0) := Lib.hid (by
    have := hre
    unfold reE at this
    rw [qf_yes ho, qf_yes ho, qf_yes ho, qf_yes ho, qf_yes ho, ql_yes ho, bodyOf_len (okB_parts ho).2, HBqN.out, HLen.out] at this
    exact this)
   have HRL : Hid (sealL (pf (tagOf l) 0) (pf (tagOf l) 1) (pf (tagOf l) 2) (pf (tagOf l) 3) (pf (tagOf l) 4) (bodyOf l) 2 = reL l) := Lib.hid (by
    unfold reL
    rw [qf_yes ho, qf_yes ho, qf_yes ho, qf_yes ho, qf_yes ho, ql_yes ho, HLen.out]
    rfl)
   have HBd : Hid (By w (some ⟨g, o + 17, none⟩) N (cp - 17) (bodyOf l)) := Lib.hid (by
    have := HB.out.sub 17 N (cp - 17) (by omega) (by omega) (by omega)
    unfold bodyOf
    rw [HBqN.out]
    exact this)
   have HGD := Lib.hid hgood
   clear hNc ho hre hgood hv
   go_wp2_with fail
   refine (rroom_any _ _).mono ?_
   rw [show roomN 2 = 88 from rfl]
   rintro r w3 ⟨rfl, rfl⟩
   go_wp2_with fail
   refine (copy_by _ (bodyOf l) N (cp - 17) _ (HBd.out.ext HE.out) (by omega)).mono ?_
   rintro r w4 ⟨A4, c4', rfl, hb4, hx, hown⟩
   have hge : ∀ g o, A4 = some ⟨g, o, none⟩ → 0 < N → w.heap.size + 1 ≤ g := by
    intro g o hA hN
    obtain ⟨g2, cap, hv2⟩ := Go.Joins.ownsRow_form hown hN
    injection hv2 with hv2 _ _
    rw [hA] at hv2
    injection hv2 with hv2
    injection hv2 with hv2 _
    subst hv2
    have h1 := (hown.lt g (by rw [hA]; rfl)).1
    have h2 := (Array.getElem?_eq_some_iff.1 HZ.out).1
    omega
   have HGe := Lib.hid hge
   have HB4 := Lib.hid hb4
   have hz1 := (hx.block _ (Array.getElem?_eq_some_iff.1 HZ.out).1).trans HZ.out
   have hr1 := (hx.block _ (Array.getElem?_eq_some_iff.1 HR2.out).1).trans HR2.out
   have HE := Lib.hid (HE.out.trans hx)
   have HZ := Lib.hid hz1
   have HR2 := Lib.hid hr1
   clear hx hown hge hb4 c0 c1 c2 c3 c4 f0 f1 f2 f3 f4 hs4
   obtain ⟨⟨d0, d1, d2, d3, d4⟩, _⟩ := five_cells hr1
   clear hz1 hr1
   go_wp2_with fail
   refine (rseal_any _ _ _ _ _ _ _ _ _ (bodyOf l) _ HB4.out).mono ?_
   rw [HRE.out, HRL.out]
   rintro r w5 ⟨A5, c5, rfl, hb5, hx⟩
   have HB5 := Lib.hid hb5
   have HB4 := Lib.hid (HB4.out.ext hx)
   have hz1 := (hx.block _ (Array.getElem?_eq_some_iff.1 HZ.out).1).trans HZ.out
   have hr1 := (hx.block _ (Array.getElem?_eq_some_iff.1 HR2.out).1).trans HR2.out
   have HE := Lib.hid (HE.out.trans hx)
   have HZ := Lib.hid hz1
   have HR2 := Lib.hid hr1
   clear hx hb5 d0 d1 d2 d3 d4 hz1 hr1
   generalize reL l = RL at *
   go_wp2_with fail
   refine (same_by _ _ RL l _ _ _ _ _ HB5.out (HB.out.ext HE.out)).mono ?_
   by_cases hg2 : RL = l
   ·rw [decide_eq_true hg2]
    have hgd : goodB l = true := by rw [HGD.out, decide_eq_true hg2]
    have HF : Hid (∀ k, pf (tagOf l) k = ofl l k) := Lib.hid fun k => (ofl_yes hgd k).symm
    have HQ : Hid (bodyOf l = obl l) := Lib.hid (obl_yes hgd).symm
    have HST := Lib.hid (stN_good hgd)
    clear hgd hg2
    rintro r w6 ⟨rfl, hx⟩
    have HB4 := Lib.hid (HB4.out.ext hx)
    have hz1 := (hx.block _ (Array.getElem?_eq_some_iff.1 HZ.out).1).trans HZ.out
    have hr1 := (hx.block _ (Array.getElem?_eq_some_iff.1 HR2.out).1).trans HR2.out
    have HE := Lib.hid (HE.out.trans hx)
    have HZ := Lib.hid hz1
    have HR2 := Lib.hid hr1
    obtain ⟨⟨c0, c1, c2, c3, c4⟩, f0, f1, f2, f3, f4⟩ := five_cells hz1
    obtain ⟨⟨d0, d1, d2, d3, d4⟩, _⟩ := five_cells hr1
    clear hx hz1 hr1
    go_wp2_with fail
    generalize hh2 : w2.heap.size = h2 at *
    generalize hh0 : w.heap.size = h0 at *
    have HN0 := Lib.hid hh0
    have hne : h0 ≠ h2 := by have := (Array.getElem?_eq_some_iff.1 HZ1.out).1; omega
    clear hh0 hh2
    go_region_held3 (fun w' => w'.cell? ⟨h2, 0, none⟩ = some (.int .i64 (pf (tagOf l) 0)) ∧ w'.cell? ⟨h2, 1, none⟩ = some (.int .i64 (pf (tagOf l) 1)) ∧ w'.cell? ⟨h2, 2, none⟩ = some (.int .i64 (pf (tagOf l) 2)) ∧ w'.cell? ⟨h2, 3, none⟩ = some (.int .i64 (pf (tagOf l) 3)) ∧ w'.cell? ⟨h2, 4, none⟩ = some (.int .i64 (pf (tagOf l) 4)))
     (first | with_reducible exact ⟨d0, d1, d2, d3, d4⟩ | with_reducible exact ⟨five_far_drew hne d0 _ _ _ _ _, five_far_drew hne d1 _ _ _ _ _, five_far_drew hne d2 _ _ _ _ _, five_far_drew hne d3 _ _ _ _ _, five_far_drew hne d4 _ _ _ _ _⟩ | go_keep)
     (first | (go_at_call 0; fail))
    have hrow := five_row HZ.out (.int .i64 (pf (tagOf l) 0)) (.int .i64 (pf (tagOf l) 1)) (.int .i64 (pf (tagOf l) 2)) (.int .i64 (pf (tagOf l) 3)) (.int .i64 (pf (tagOf l) 4))
    have hx := five_ext HE.out (g := h0) (Nat.le_of_eq HN0.out) (.int .i64 (pf (tagOf l) 0)) (.int .i64 (pf (tagOf l) 1)) (.int .i64 (pf (tagOf l) 2)) (.int .i64 (pf (tagOf l) 3)) (.int .i64 (pf (tagOf l) 4))
    have hby := HB4.out.five (h0 := h0) (fun g o hA hN => by have := HGe.out g o hA hN; omega) (.int .i64 (pf (tagOf l) 0)) (.int .i64 (pf (tagOf l) 1)) (.int .i64 (pf (tagOf l) 2)) (.int .i64 (pf (tagOf l) 3)) (.int .i64 (pf (tagOf l) 4))
    clear c0 c1 c2 c3 c4 f0 f1 f2 f3 f4 d0 d1 d2 d3 d4
    generalize (((((w6.setCell ⟨h0, 0, none⟩ (.int .i64 (pf (tagOf l) 0))).setCell ⟨h0, 1, none⟩ (.int .i64 (pf (tagOf l) 1))).setCell ⟨h0, 2, none⟩ (.int .i64 (pf (tagOf l) 2))).setCell ⟨h0, 3, none⟩ (.int .i64 (pf (tagOf l) 3))).setCell ⟨h0, 4, none⟩ (.int .i64 (pf (tagOf l) 4))) = V at hrow hx hby ⊢
    obtain ⟨⟨e0, e1, e2, e3, e4⟩, _⟩ := five_cells hrow
    have HB4 := Lib.hid (hby.ext ((Ext.refl V).drew))
    have HX := Lib.hid hx.drew
    clear hrow hx hby
    go_wp2_with fail
    refine bodyPost_ret (v := .tuple #[.int .u8 1, .agg #[.int .i64 (pf (tagOf l) 0), .int .i64 (pf (tagOf l) 1), .int .i64 (pf (tagOf l) 2), .int .i64 (pf (tagOf l) 3), .int .i64 (pf (tagOf l) 4)], .slice A4 N c4']) ?_ rfl ?_
    ·simp [results, Tryz.results223, go_sem, e0, e1, e2, e3, e4]
    ·exact ⟨A4, N, c4', by rw [HF.out, HF.out, HF.out, HF.out, HF.out, HST.out]; rfl, by rw [← HQ.out]; exact HB4.out, fun g o hA hN => by have h1 := HGe.out g o hA hN; have h2 := HN0.out; omega, HX.out⟩
   ·rw [decide_eq_false hg2]
    have hgd : goodB l = false := by rw [HGD.out, decide_eq_false hg2]
    have HF : Hid (∀ k, ofl l k = 0) := Lib.hid (ofl_no hgd)
    have HQ : Hid (obl l = []) := Lib.hid (obl_no hgd)
    have HST := Lib.hid (stN_bad HZB.out hgd)
    clear hgd hg2
    rintro r w6 ⟨rfl, hx⟩
    have hz1 := (hx.block _ (Array.getElem?_eq_some_iff.1 HZ.out).1).trans HZ.out
    have HE := Lib.hid (HE.out.trans hx)
    obtain ⟨⟨c0, c1, c2, c3, c4⟩, f0, f1, f2, f3, f4⟩ := five_cells hz1
    clear hx hz1
    go_wp2_with fail
    refine bodyPost_ret (v := .tuple #[.int .u8 2, .agg #[.int .i64 0, .int .i64 0, .int .i64 0, .int .i64 0, .int .i64 0], .slice none 0 0]) ?_ rfl ?_
    ·simp [results, Tryz.results223, go_sem, c0, c1, c2, c3, c4]
    ·exact ⟨none, 0, 0, by rw [HF.out, HF.out, HF.out, HF.out, HF.out, HST.out]; rfl, by rw [HQ.out]; exact By.nil_ _, fun g o hA hN => absurd hN (by omega), five_ext HE.out (Nat.le_refl _) _ _ _ _ _⟩
  ·have hgd : goodB l = false := by
    by_cases hg : goodB l = true
    ·have h3 := (good_parts hg).2.2.1
     rw [HLen.out, HBqN.out] at h3
     exact absurd (show N ≤ 88 from h3) hle
    ·simpa using hg
   have HF : Hid (∀ k, ofl l k = 0) := Lib.hid (ofl_no hgd)
   have HQ : Hid (obl l = []) := Lib.hid (obl_no hgd)
   have HST := Lib.hid (stN_bad HZB.out hgd)
   clear hgd hv
   go_wp2_with fail
   refine (rroom_any _ _).mono ?_
   rw [show roomN 2 = 88 from rfl]
   rintro r w3 ⟨rfl, rfl⟩
   go_wp2_with fail
   refine bodyPost_ret (v := .tuple #[.int .u8 2, .agg #[.int .i64 0, .int .i64 0, .int .i64 0, .int .i64 0, .int .i64 0], .slice none 0 0]) ?_ rfl ?_
   ·simp [results, Tryz.results223, go_sem, c0, c1, c2, c3, c4]
   ·exact ⟨none, 0, 0, by rw [HF.out, HF.out, HF.out, HF.out, HF.out, HST.out]; rfl, by rw [HQ.out]; exact By.nil_ _, fun g o hA hN => absurd hN (by omega), five_ext HE.out (Nat.le_refl _) _ _ _ _ _⟩
 ·have hv' : PV (tagOf l) = false := by simpa using hv
  have hgd : goodB l = false := by
   by_cases hg : goodB l = true
   ·rw [(good_parts hg).2.1] at hv'; cases hv'
   ·simpa using hg
  have HF : Hid (∀ k, ofl l k = 0) := Lib.hid (ofl_no hgd)
  have HQ : Hid (obl l = []) := Lib.hid (obl_no hgd)
  have HST := Lib.hid (stN_bad HZB.out hgd)
  rw [pe_no hv', pf_no hv', pf_no hv', pf_no hv', pf_no hv', pf_no hv']
  rintro r w2 ⟨rfl, hx2⟩
  have hx := hx2.alloc (.cells #[.int .i64 0, .int .i64 0, .int .i64 0, .int .i64 0, .int .i64 0] 44)
  have hz1 := (hx.block _ (Array.getElem?_eq_some_iff.1 HZ.out).1).trans HZ.out
  have HE := Lib.hid (HE.out.trans hx)
  obtain ⟨⟨c0, c1, c2, c3, c4⟩, f0, f1, f2, f3, f4⟩ := five_cells hz1
  clear hx hz1 hs3 hv hv' hgd
  go_wp2_with fail
  refine bodyPost_ret (v := .tuple #[.int .u8 2, .agg #[.int .i64 0, .int .i64 0, .int .i64 0, .int .i64 0, .int .i64 0], .slice none 0 0]) ?_ rfl ?_
  ·simp [results, Tryz.results223, go_sem, c0, c1, c2, c3, c4]
  ·exact ⟨none, 0, 0, by rw [HF.out, HF.out, HF.out, HF.out, HF.out, HST.out]; rfl, by rw [HQ.out]; exact By.nil_ _, fun g o hA hN => absurd hN (by omega), five_ext HE.out (Nat.le_refl _) _ _ _ _ _⟩
theorem ropen_any (A : Option Addr) (n cp : Nat) (l : List Nat) (w : World) (hb : By w A n cp l) :
 Calls Tryz.prog 223 #[.slice A n cp] w fun r w' => ∃ A' N c', r = .returned (.tuple #[.int .u8 (stN l), .agg #[.int .i64 (ofl l 0), .int .i64 (ofl l 1), .int .i64 (ofl l 2), .int .i64 (ofl l 3), .int .i64 (ofl l 4)], .slice A' N c']) ∧ By w' A' N c' (obl l) ∧ (∀ g o, A' = some ⟨g, o, none⟩ → 0 < N → w.heap.size ≤ g) ∧ Ext w w' := by
 by_cases h : szB l = false ∨ zeroB l = true
 ·have hg : goodB l = false := by rcases h with h | h; exact size_bad h; exact zero_bad h
  refine (ropen_early A n cp l w hb h).mono ?_
  rintro r w' ⟨rfl, hx⟩
  exact ⟨none, 0, 0, by rw [ofl_no hg, ofl_no hg, ofl_no hg, ofl_no hg, ofl_no hg]; rfl, by rw [obl_no hg]; exact By.nil_ _, fun g o hA hN => absurd hN (by omega), hx⟩
 ·have hs : szB l = true := by
   by_cases hs : szB l = true
   ·exact hs
   ·exact absurd (.inl (by simpa using hs)) h
  have hz : zeroB l = false := by
   by_cases hz : zeroB l = true
   ·exact absurd (.inr hz) h
   ·simpa using hz
  have hsz := szB_iff.1 hs
  rw [Bs.len hb] at hsz
  rcases hsz with rfl | rfl
  ·exact ropen_64 A cp l w hb hz
  ·exact ropen_128 A cp l w hb hz
end
section
open Go Go.RowKit
set_option maxHeartbeats 6400000 in
theorem rmine_any (A : Option Addr) (n cp : Nat) (l : List Nat) (x y z : Int) (w : World) (hb : By w A n cp l) :
 Calls Tryz.prog 176 #[.slice A n cp, .int .i64 x, .int .i64 y, .int .i64 z] w fun r w' => ∃ A' N c', r = .returned (.tuple #[.int .u8 (stM l x y z), .agg #[.int .i64 (mfl l x y z 0), .int .i64 (mfl l x y z 1), .int .i64 (mfl l x y z 2), .int .i64 (mfl l x y z 3), .int .i64 (mfl l x y z 4)], .slice A' N c']) ∧ By w' A' N c' (mbl l x y z) ∧ (∀ g o, A' = some ⟨g, o, none⟩ → 0 < N → w.heap.size ≤ g) ∧ Ext w w' := by
 have hz := heap_alloc_new w (.cells #[.int .i64 0, .int .i64 0, .int .i64 0, .int .i64 0, .int .i64 0] 44)
 have hE := (Ext.refl w).alloc (.cells #[.int .i64 0, .int .i64 0, .int .i64 0, .int .i64 0, .int .i64 0] 44)
 have HB := Lib.hid hb
 have HE := Lib.hid hE
 have HZ := Lib.hid hz
 clear hb hE hz
 go_enter Tryz.func176, Tryz.ntmps176
 go_wp2_with fail
 refine (ropen_any A n cp l _ (HB.out.ext HE.out)).mono ?_
 rintro r w1 ⟨A1, N, c', rfl, hb1, hge, hx⟩
 have hxa := hx.alloc (.cells #[.int .i64 (ofl l 0), .int .i64 (ofl l 1), .int .i64 (ofl l 2), .int .i64 (ofl l 3), .int .i64 (ofl l 4)] 44)
 have hz1 := (hxa.block _ (Array.getElem?_eq_some_iff.1 HZ.out).1).trans HZ.out
 have hlt1 := (Array.getElem?_eq_some_iff.1 HZ.out).1
 have hsz1 := Ext.size hx
 have hr1 := heap_alloc_new w1 (.cells #[.int .i64 (ofl l 0), .int .i64 (ofl l 1), .int .i64 (ofl l 2), .int .i64 (ofl l 3), .int .i64 (ofl l 4)] 44)
 have HNE : Hid (∀ g o, A1 = some ⟨g, o, none⟩ → 0 < N → w.heap.size ≠ g) := Lib.hid fun g o hA hN => by
  have h1 := hge g o hA hN
  simp at h1
  omega
 have HGE : Hid (∀ g o, A1 = some ⟨g, o, none⟩ → 0 < N → w.heap.size ≤ g) := Lib.hid fun g o hA hN => Nat.le_trans (by simp) (hge g o hA hN)
 have HB1 := Lib.hid (hb1.ext ((Ext.refl w1).alloc (.cells #[.int .i64 (ofl l 0), .int .i64 (ofl l 1), .int .i64 (ofl l 2), .int .i64 (ofl l 3), .int .i64 (ofl l 4)] 44)))
 have HE := Lib.hid (HE.out.trans hxa)
 have HZ := Lib.hid hz1
 have hne : w.heap.size ≠ w1.heap.size := by omega
 obtain ⟨⟨c0, c1, c2, c3, c4⟩, f0, f1, f2, f3, f4⟩ := five_cells hz1
 obtain ⟨⟨d0, d1, d2, d3, d4⟩, _⟩ := five_cells hr1
 clear hx hxa hz1 hr1 hb1 hge hlt1 hsz1
 by_cases hg : goodB l = true
 ·have HST : Hid (stN l = 1) := Lib.hid (stN_good hg)
  rw [HST.out]
  by_cases hm : mineB l x y z = true
  ·obtain ⟨e1, e2, e3⟩ := mine_yes hg hm
   have HR : Hid (stM l x y z = 1 ∧ (∀ k, mfl l x y z k = ofl l k) ∧ mbl l x y z = obl l) := Lib.hid ⟨e1, e2, e3⟩
   obtain ⟨rfl, rfl, rfl⟩ := (mineB_iff hg).1 hm
   clear e1 e2 e3 hg hm
   go_wp2_with fail
   generalize hW : (w1.alloc (.cells #[.int .i64 (ofl l 0), .int .i64 (ofl l 1), .int .i64 (ofl l 2), .int .i64 (ofl l 3), .int .i64 (ofl l 4)] 44)) = W at *
   generalize hh2 : w1.heap.size = h2 at *
   generalize hh0 : w.heap.size = h0 at *
   have HN0 := Lib.hid hh0
   clear hh0 hh2 hW
   go_region_held3 (fun w' => w'.cell? ⟨h2, 0, none⟩ = some (.int .i64 (ofl l 0)) ∧ w'.cell? ⟨h2, 1, none⟩ = some (.int .i64 (ofl l 1)) ∧ w'.cell? ⟨h2, 2, none⟩ = some (.int .i64 (ofl l 2)) ∧ w'.cell? ⟨h2, 3, none⟩ = some (.int .i64 (ofl l 3)) ∧ w'.cell? ⟨h2, 4, none⟩ = some (.int .i64 (ofl l 4)))
    (first | with_reducible exact ⟨d0, d1, d2, d3, d4⟩ | with_reducible exact ⟨five_far_drew hne d0 _ _ _ _ _, five_far_drew hne d1 _ _ _ _ _, five_far_drew hne d2 _ _ _ _ _, five_far_drew hne d3 _ _ _ _ _, five_far_drew hne d4 _ _ _ _ _⟩ | go_keep)
    (first | (go_at_call 0; fail))
   have hrow := five_row HZ.out (.int .i64 (ofl l 0)) (.int .i64 (ofl l 1)) (.int .i64 (ofl l 2)) (.int .i64 (ofl l 3)) (.int .i64 (ofl l 4))
   have hx := five_ext HE.out (g := h0) (Nat.le_of_eq HN0.out) (.int .i64 (ofl l 0)) (.int .i64 (ofl l 1)) (.int .i64 (ofl l 2)) (.int .i64 (ofl l 3)) (.int .i64 (ofl l 4))
   have hby := HB1.out.five HNE.out (.int .i64 (ofl l 0)) (.int .i64 (ofl l 1)) (.int .i64 (ofl l 2)) (.int .i64 (ofl l 3)) (.int .i64 (ofl l 4))
   clear c0 c1 c2 c3 c4 f0 f1 f2 f3 f4 d0 d1 d2 d3 d4
   generalize (((((W.setCell ⟨h0, 0, none⟩ (.int .i64 (ofl l 0))).setCell ⟨h0, 1, none⟩ (.int .i64 (ofl l 1))).setCell ⟨h0, 2, none⟩ (.int .i64 (ofl l 2))).setCell ⟨h0, 3, none⟩ (.int .i64 (ofl l 3))).setCell ⟨h0, 4, none⟩ (.int .i64 (ofl l 4))) = V at hrow hx hby ⊢
   obtain ⟨⟨e0, e1, e2, e3, e4⟩, _⟩ := five_cells hrow
   have HB1 := Lib.hid (hby.ext ((Ext.refl V).drew))
   have HX := Lib.hid hx.drew
   clear hrow hx hby
   go_wp2_with fail
   refine bodyPost_ret (v := .tuple #[.int .u8 1, .agg #[.int .i64 (ofl l 0), .int .i64 (ofl l 1), .int .i64 (ofl l 2), .int .i64 (ofl l 3), .int .i64 (ofl l 4)], .slice A1 N c']) ?_ rfl ?_
   ·simp [results, Tryz.results176, go_sem, e0, e1, e2, e3, e4]
   ·exact ⟨A1, N, c', by rw [HR.out.1, HR.out.2.1, HR.out.2.1, HR.out.2.1, HR.out.2.1, HR.out.2.1]; rfl, by rw [HR.out.2.2]; exact HB1.out, by rw [HN0.out]; exact HGE.out, HX.out⟩
  ·have hm' : mineB l x y z = false := by simpa using hm
   obtain ⟨e1, e2, e3⟩ := mine_no hg hm'
   have HR : Hid (stM l x y z = 2 ∧ (∀ k, mfl l x y z k = 0) ∧ mbl l x y z = []) := Lib.hid ⟨e1, e2, e3⟩
   rw [mineB_iff hg] at hm
   clear e1 e2 e3 hm'
   have hx0 := Lib.hid hm
   by_cases h0' : (ofl l 0 : Int) = x
   ·by_cases h1 : (ofl l 1 : Int) = y
    ·have h2' : ¬ (ofl l 2 : Int) = z := fun h => hm ⟨h0', h1, h⟩
     subst h0'; subst h1
     have g2 : ((ofl l 2 : Int) != z) = true := by simpa using h2'
     clear hm hg h2' hx0
     go_wp2_with fail
     refine bodyPost_ret (v := .tuple #[.int .u8 2, .agg #[.int .i64 0, .int .i64 0, .int .i64 0, .int .i64 0, .int .i64 0], .slice none 0 0]) ?_ rfl ?_
     ·simp [results, Tryz.results176, go_sem, c0, c1, c2, c3, c4]
     ·exact ⟨none, 0, 0, by rw [HR.out.1, HR.out.2.1, HR.out.2.1, HR.out.2.1, HR.out.2.1, HR.out.2.1]; rfl, by rw [HR.out.2.2]; exact By.nil_ _, fun g o hA hN => absurd hN (by omega), five_ext HE.out (Nat.le_refl _) _ _ _ _ _⟩
    ·subst h0'
     have g1 : ((ofl l 1 : Int) != y) = true := by simpa using h1
     clear hm hg h1 hx0
     go_wp2_with fail
     refine bodyPost_ret (v := .tuple #[.int .u8 2, .agg #[.int .i64 0, .int .i64 0, .int .i64 0, .int .i64 0, .int .i64 0], .slice none 0 0]) ?_ rfl ?_
     ·simp [results, Tryz.results176, go_sem, c0, c1, c2, c3, c4]
     ·exact ⟨none, 0, 0, by rw [HR.out.1, HR.out.2.1, HR.out.2.1, HR.out.2.1, HR.out.2.1, HR.out.2.1]; rfl, by rw [HR.out.2.2]; exact By.nil_ _, fun g o hA hN => absurd hN (by omega), five_ext HE.out (Nat.le_refl _) _ _ _ _ _⟩
   ·have g0 : ((ofl l 0 : Int) != x) = true := by simpa using h0'
    clear hm hg h0' hx0
    go_wp2_with fail
    refine bodyPost_ret (v := .tuple #[.int .u8 2, .agg #[.int .i64 0, .int .i64 0, .int .i64 0, .int .i64 0, .int .i64 0], .slice none 0 0]) ?_ rfl ?_
    ·simp [results, Tryz.results176, go_sem, c0, c1, c2, c3, c4]
    ·exact ⟨none, 0, 0, by rw [HR.out.1, HR.out.2.1, HR.out.2.1, HR.out.2.1, HR.out.2.1, HR.out.2.1]; rfl, by rw [HR.out.2.2]; exact By.nil_ _, fun g o hA hN => absurd hN (by omega), five_ext HE.out (Nat.le_refl _) _ _ _ _ _⟩
 ·have hg' : goodB l = false := by simpa using hg
  obtain ⟨e1, e2, e3⟩ := mine_bad (x := x) (y := y) (z := z) hg'
  have HR : Hid (stM l x y z = stN l ∧ (∀ k, mfl l x y z k = ofl l k) ∧ mbl l x y z = obl l) := Lib.hid ⟨e1, e2, e3⟩
  have hst : ¬ stN l = 1 := fun h => hg (stN_one.1 h)
  have g0 : ((stN l : Int) == 1) = false := by simp; omega
  clear e1 e2 e3 hg hg' hst
  generalize stN l = st at *
  go_wp2_with fail
  generalize hW : (w1.alloc (.cells #[.int .i64 (ofl l 0), .int .i64 (ofl l 1), .int .i64 (ofl l 2), .int .i64 (ofl l 3), .int .i64 (ofl l 4)] 44)) = W at *
  generalize hh2 : w1.heap.size = h2 at *
  generalize hh0 : w.heap.size = h0 at *
  have HN0 := Lib.hid hh0
  clear hh0 hh2 hW
  go_region_held3 (fun w' => w'.cell? ⟨h2, 0, none⟩ = some (.int .i64 (ofl l 0)) ∧ w'.cell? ⟨h2, 1, none⟩ = some (.int .i64 (ofl l 1)) ∧ w'.cell? ⟨h2, 2, none⟩ = some (.int .i64 (ofl l 2)) ∧ w'.cell? ⟨h2, 3, none⟩ = some (.int .i64 (ofl l 3)) ∧ w'.cell? ⟨h2, 4, none⟩ = some (.int .i64 (ofl l 4)))
   (first | with_reducible exact ⟨d0, d1, d2, d3, d4⟩ | with_reducible exact ⟨five_far_drew hne d0 _ _ _ _ _, five_far_drew hne d1 _ _ _ _ _, five_far_drew hne d2 _ _ _ _ _, five_far_drew hne d3 _ _ _ _ _, five_far_drew hne d4 _ _ _ _ _⟩ | go_keep)
   (first | (go_at_call 0; fail))
  have hrow := five_row HZ.out (.int .i64 (ofl l 0)) (.int .i64 (ofl l 1)) (.int .i64 (ofl l 2)) (.int .i64 (ofl l 3)) (.int .i64 (ofl l 4))
  have hx := five_ext HE.out (g := h0) (Nat.le_of_eq HN0.out) (.int .i64 (ofl l 0)) (.int .i64 (ofl l 1)) (.int .i64 (ofl l 2)) (.int .i64 (ofl l 3)) (.int .i64 (ofl l 4))
  have hby := HB1.out.five HNE.out (.int .i64 (ofl l 0)) (.int .i64 (ofl l 1)) (.int .i64 (ofl l 2)) (.int .i64 (ofl l 3)) (.int .i64 (ofl l 4))
  clear c0 c1 c2 c3 c4 f0 f1 f2 f3 f4 d0 d1 d2 d3 d4
  generalize (((((W.setCell ⟨h0, 0, none⟩ (.int .i64 (ofl l 0))).setCell ⟨h0, 1, none⟩ (.int .i64 (ofl l 1))).setCell ⟨h0, 2, none⟩ (.int .i64 (ofl l 2))).setCell ⟨h0, 3, none⟩ (.int .i64 (ofl l 3))).setCell ⟨h0, 4, none⟩ (.int .i64 (ofl l 4))) = V at hrow hx hby ⊢
  obtain ⟨⟨e0, e1, e2, e3, e4⟩, _⟩ := five_cells hrow
  have HB1 := Lib.hid (hby.ext ((Ext.refl V).drew))
  have HX := Lib.hid hx.drew
  clear hrow hx hby
  go_wp2_with fail
  refine bodyPost_ret (v := .tuple #[.int .u8 st, .agg #[.int .i64 (ofl l 0), .int .i64 (ofl l 1), .int .i64 (ofl l 2), .int .i64 (ofl l 3), .int .i64 (ofl l 4)], .slice A1 N c']) ?_ rfl ?_
  ·simp [results, Tryz.results176, go_sem, e0, e1, e2, e3, e4]
  ·exact ⟨A1, N, c', by rw [HR.out.1, HR.out.2.1, HR.out.2.1, HR.out.2.1, HR.out.2.1, HR.out.2.1], by rw [HR.out.2.2]; exact HB1.out, by rw [HN0.out]; exact HGE.out, HX.out⟩
end
end Go.Proofs.YtmpaocpgoihliaaGreatDoor

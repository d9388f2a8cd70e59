/-
  The contract of the frame's parts: the tag and the body that bytes would have.
-/
import Derived.Test.YtmpaocpgoihliaaGreatDoorP00
import Derived.Test.YtmpaocpgoihliaaGreatDoorP07
import Derived.Test.YtmpaocpgoihliaaGreatDoorP08
import Derived.Test.YtmpaocpgoihliaaGreatDoorP09
import Derived.Deep.RegionHeld3
import Derived.Lib.SmallJoins
namespace Go.Proofs.YtmpaocpgoihliaaGreatDoor
set_option maxRecDepth 100000
section
open Go Go.RowKit
theorem cut_body (g n cp N : Nat) (hn : 17 + N ≤ cp) : ∃ A' : Option Addr, (0 < N → A' = some ⟨g, 17, none⟩) ∧
 ∀ w, (Instr.slice 45 (.slice (some ⟨g, 0, none⟩) n cp) (some (.int .i64 17)) (some (.int .i64 (17 + (N : Int)))) (some (.int .i64 (17 + (N : Int))))).run Tryz.prog w = .ok (.slice A' N N) w := by
 refine ⟨if 17 + N = 17 then some ⟨g, 0, none⟩ else some ⟨g, 17, none⟩, fun h => by rw [if_neg (by omega)], fun w => ?_⟩
 have ht : Tryz.prog.elem 45 = 5 := by kernel_rfl
 have hs : (sizeOf (Tryz.prog.elem 45)).run Tryz.prog w = .ok 1 w := by
  obtain ⟨i0, hi, _, hz1, _⟩ := info_parts byte_info
  rw [ht]
  simp [Go.sizeOf, typeInfo, hi, hz1]
 rw [run_slice_lhm w 45 (some ⟨g, 0, none⟩) n cp (by rw [ht]; exact Tryz.underlying45) .i64 .i64 .i64 17 (17 + (N : Int)) (17 + (N : Int)) (by omega) (by omega) (by omega) (by omega), hs]
 have e : (17 + (N : Int)).toNat = 17 + N := by omega
 simp only [Result.andThen, sliced, e]
 have e2 : 17 + N - Int.toNat 17 = N := by omega
 rw [e2, show Int.toNat 17 = 17 from rfl]
 rfl
set_option maxHeartbeats 6400000 in
theorem parts_any (g n cp : Nat) (l : List Nat) (w : World) (hL : LaidA w) (hb : By w (some ⟨g, 0, none⟩) n cp l) (hn : 64 ≤ n) (hn2 : n ≤ 128) :
 Calls Tryz.prog 266 #[.slice (some ⟨g, 0, none⟩) n cp] w fun r w' => ∃ A' N, r = .returned (.tuple #[.agg #[.int .i64 (qf l 0), .int .i64 (qf l 1), .int .i64 (qf l 2), .int .i64 (qf l 3), .int .i64 (qf l 4)], .slice A' N N]) ∧ By w' A' N N (ql l) ∧ (0 < N → A' = some ⟨g, 17, none⟩ ∧ 17 + N ≤ n) ∧ Ext w w' := by
 have hz : (w.alloc (.cells #[.int .i64 0, .int .i64 0, .int .i64 0, .int .i64 0, .int .i64 0] 44)).heap[w.heap.size]? = some (.cells #[.int .i64 0, .int .i64 0, .int .i64 0, .int .i64 0, .int .i64 0] 44 (0, 0)) := heap_alloc_new w _
 have hE := (Ext.refl w).alloc (.cells #[.int .i64 0, .int .i64 0, .int .i64 0, .int .i64 0, .int .i64 0] 44)
 have hcap := Bs.cap hb
 have hmost := Bs.most hb
 have HN : Hid (l.length = n) := Lib.hid (Bs.len hb)
 have HG : Hid (getS l 0 2 = (bodyN l, 2, 0)) := Lib.hid (getS_zero (x := 2) rfl (by rw [HN.out]; omega))
 have hN16 : bodyN l < 65536 := by
  have h2 := num_lt (l.take 2) (fun b hb' => (Bs.rd hb).lt b (List.mem_of_mem_take hb'))
  rw [List.length_take, Nat.min_eq_left (by rw [HN.out]; omega)] at h2
  exact h2
 have HB := Lib.hid hb
 have HL := Lib.hid hL
 have HE := Lib.hid hE
 have HZ := Lib.hid hz
 have HSub : Hid (By w (some ⟨g, 2, none⟩) 15 (cp - 2) (tagOf l)) := Lib.hid (by have := hb.sub 2 15 (cp - 2) (by omega) (by omega) (by omega); rwa [Nat.zero_add] at this)
 clear hb hL hE hz
 go_enter Tryz.func266, Tryz.ntmps266
 go_wp2_with fail
 refine (get_by _ l n cp 0 2 _ (HL.out.ext HE.out).o (HB.out.ext HE.out) (by omega)).mono ?_
 rw [HG.out]
 rintro r w1 ⟨rfl, hx⟩
 have HE := Lib.hid (HE.out.trans hx)
 have hz1 := (hx.block _ (Array.getElem?_eq_some_iff.1 HZ.out).1).trans HZ.out
 have HZ := Lib.hid hz1
 clear hx hz1
 go_wp2_with fail
 by_cases hv : PV (tagOf l) = true
 ·by_cases hle : 17 + bodyN l ≤ n
  ·have ho : okB l = true := okB_yes hv (by rw [HN.out]; exact hle)
   have HF : Hid (∀ k, qf l k = pf (tagOf l) k) := Lib.hid (qf_yes ho)
   have HQ : Hid (ql l = bodyOf l) := Lib.hid (ql_yes ho)
   refine (parse_any _ _ _ (tagOf l) _ (HL.out.ext HE.out) (HSub.out.ext ((Ext.refl w).trans HE.out)) (by omega)).mono ?_
   rw [pe_yes hv]
   rintro r w2 ⟨rfl, hx2⟩
   have hx := hx2.alloc (.cells #[.int .i64 (pf (tagOf l) 0), .int .i64 (pf (tagOf l) 1), .int .i64 (pf (tagOf l) 2), .int .i64 (pf (tagOf l) 3), .int .i64 (pf (tagOf l) 4)] 44)
   have hr2 := heap_alloc_new w2 (.cells #[.int .i64 (pf (tagOf l) 0), .int .i64 (pf (tagOf l) 1), .int .i64 (pf (tagOf l) 2), .int .i64 (pf (tagOf l) 3), .int .i64 (pf (tagOf l) 4)] 44)
   have hz1 := (hx.block _ (Array.getElem?_eq_some_iff.1 HZ.out).1).trans HZ.out
   have HE := Lib.hid (HE.out.trans hx)
   have HR2 := Lib.hid hr2
   have HZ1 : Hid (w1.heap[w.heap.size]? = _) := HZ
   have hlt1 := Ext.size (show Ext w1 w2 from hx2)
   have HZ := Lib.hid hz1
   obtain ⟨⟨c0, c1, c2, c3, c4⟩, f0, f1, f2, f3, f4⟩ := five_cells hz1
   obtain ⟨⟨d0, d1, d2, d3, d4⟩, _⟩ := five_cells hr2
   clear hx hr2 hz1 hv ho HG
   go_wp2_with fail
   generalize w2.alloc (.cells #[.int .i64 (pf (tagOf l) 0), .int .i64 (pf (tagOf l) 1), .int .i64 (pf (tagOf l) 2), .int .i64 (pf (tagOf l) 3), .int .i64 (pf (tagOf l) 4)] 44) = W at *
   generalize w2.heap.size = h2 at *
   generalize hh0 : w.heap.size = h0 at *
   generalize hbN : bodyN l = N at *
   have HBN := Lib.hid hbN
   clear hbN
   have HN0 := Lib.hid hh0
   have hne : h0 ≠ h2 := by have := (Array.getElem?_eq_some_iff.1 HZ1.out).1; omega
   clear hh0
   obtain ⟨A', hA', hsl⟩ := cut_body g n cp N (by omega)
   have HA' := Lib.hid hA'
   clear hA'
   go_region_held3 (fun w' => w'.cell? ⟨h2, 0, none⟩ = some (.int .i64 (pf (tagOf l) 0)) ∧ w'.cell? ⟨h2, 1, none⟩ = some (.int .i64 (pf (tagOf l) 1)) ∧ w'.cell? ⟨h2, 2, none⟩ = some (.int .i64 (pf (tagOf l) 2)) ∧ w'.cell? ⟨h2, 3, none⟩ = some (.int .i64 (pf (tagOf l) 3)) ∧ w'.cell? ⟨h2, 4, none⟩ = some (.int .i64 (pf (tagOf l) 4)))
    (first | with_reducible exact ⟨d0, d1, d2, d3, d4⟩ | with_reducible exact ⟨five_far_drew hne d0 _ _ _ _ _, five_far_drew hne d1 _ _ _ _ _, five_far_drew hne d2 _ _ _ _ _, five_far_drew hne d3 _ _ _ _ _, five_far_drew hne d4 _ _ _ _ _⟩ | go_keep)
    (first | (go_at_call 0; fail))
   have hrow := five_row HZ.out (.int .i64 (pf (tagOf l) 0)) (.int .i64 (pf (tagOf l) 1)) (.int .i64 (pf (tagOf l) 2)) (.int .i64 (pf (tagOf l) 3)) (.int .i64 (pf (tagOf l) 4))
   have hx := five_ext HE.out (g := h0) (Nat.le_of_eq HN0.out) (.int .i64 (pf (tagOf l) 0)) (.int .i64 (pf (tagOf l) 1)) (.int .i64 (pf (tagOf l) 2)) (.int .i64 (pf (tagOf l) 3)) (.int .i64 (pf (tagOf l) 4))
   clear c0 c1 c2 c3 c4 f0 f1 f2 f3 f4 d0 d1 d2 d3 d4
   generalize (((((W.setCell ⟨h0, 0, none⟩ (.int .i64 (pf (tagOf l) 0))).setCell ⟨h0, 1, none⟩ (.int .i64 (pf (tagOf l) 1))).setCell ⟨h0, 2, none⟩ (.int .i64 (pf (tagOf l) 2))).setCell ⟨h0, 3, none⟩ (.int .i64 (pf (tagOf l) 3))).setCell ⟨h0, 4, none⟩ (.int .i64 (pf (tagOf l) 4))) = V at hrow hx ⊢
   obtain ⟨⟨e0, e1, e2, e3, e4⟩, _⟩ := five_cells hrow
   have HX := Lib.hid hx.drew
   have HBy : Hid (By V.drew A' N N (bodyOf l)) := by
    refine Lib.hid ?_
    by_cases h0N : N = 0
    ·have hnil : bodyOf l = [] := by unfold bodyOf; rw [HBN.out, h0N, List.take_zero]
     subst h0N
     rw [hnil]
     exact ⟨rfl, Nat.le_refl _, by omega, Rd.nil_, fun _ => rfl⟩
    ·rw [HA'.out (by omega)]
     have hs := (HB.out.sub 17 N N (by omega) (Nat.le_refl _) (by omega)).ext HX.out
     rw [Nat.zero_add] at hs
     unfold bodyOf
     rw [HBN.out]
     exact hs
   clear hrow hx
   go_wp2_with fail
   refine bodyPost_ret (v := .tuple #[.agg #[.int .i64 (pf (tagOf l) 0), .int .i64 (pf (tagOf l) 1), .int .i64 (pf (tagOf l) 2), .int .i64 (pf (tagOf l) 3), .int .i64 (pf (tagOf l) 4)], .slice A' N N]) ?_ rfl ?_
   ·simp [results, Tryz.results266, go_sem, e0, e1, e2, e3, e4]
   ·exact ⟨A', N, by rw [HF.out, HF.out, HF.out, HF.out, HF.out], by rw [HQ.out]; exact HBy.out, fun hN => ⟨HA'.out hN, hle⟩, HX.out⟩
  ·have ho : okB l = false := okB_long (by rw [HN.out]; omega)
   have HF : Hid (∀ k, qf l k = 0) := Lib.hid (qf_no ho)
   have HQ : Hid (ql l = []) := Lib.hid (ql_no ho)
   refine (parse_any _ _ _ (tagOf l) _ (HL.out.ext HE.out) (HSub.out.ext ((Ext.refl w).trans HE.out)) (by omega)).mono ?_
   rw [pe_yes hv]
   rintro r w2 ⟨rfl, hx2⟩
   have hx := hx2.alloc (.cells #[.int .i64 (pf (tagOf l) 0), .int .i64 (pf (tagOf l) 1), .int .i64 (pf (tagOf l) 2), .int .i64 (pf (tagOf l) 3), .int .i64 (pf (tagOf l) 4)] 44)
   have hz1 := (hx.block _ (Array.getElem?_eq_some_iff.1 HZ.out).1).trans HZ.out
   have HE := Lib.hid (HE.out.trans hx)
   obtain ⟨⟨c0, c1, c2, c3, c4⟩, f0, f1, f2, f3, f4⟩ := five_cells hz1
   clear hx hz1 hv ho HG
   generalize bodyN l = N at *
   go_wp2_with fail
   refine bodyPost_ret (v := .tuple #[.agg #[.int .i64 0, .int .i64 0, .int .i64 0, .int .i64 0, .int .i64 0], .slice none 0 0]) ?_ rfl ?_
   ·simp [results, Tryz.results266, go_sem, c0, c1, c2, c3, c4]
   ·exact ⟨none, 0, by rw [HF.out, HF.out, HF.out, HF.out, HF.out]; rfl, by rw [HQ.out]; exact By.nil_ _, fun hN => absurd hN (by omega), five_ext HE.out (Nat.le_refl _) _ _ _ _ _⟩
 ·have hv' : PV (tagOf l) = false := by simpa using hv
  have ho : okB l = false := okB_PV hv'
  have HF : Hid (∀ k, qf l k = 0) := Lib.hid (qf_no ho)
  have HQ : Hid (ql l = []) := Lib.hid (ql_no ho)
  refine (parse_any _ _ _ (tagOf l) _ (HL.out.ext HE.out) (HSub.out.ext ((Ext.refl w).trans HE.out)) (by omega)).mono ?_
  rw [pe_no hv', pf_no hv', pf_no hv', pf_no hv', pf_no hv', pf_no hv']
  rintro r w2 ⟨rfl, hx2⟩
  have hx := hx2.alloc (.cells #[.int .i64 0, .int .i64 0, .int .i64 0, .int .i64 0, .int .i64 0] 44)
  have hz1 := (hx.block _ (Array.getElem?_eq_some_iff.1 HZ.out).1).trans HZ.out
  have HE := Lib.hid (HE.out.trans hx)
  obtain ⟨⟨c0, c1, c2, c3, c4⟩, f0, f1, f2, f3, f4⟩ := five_cells hz1
  clear hx hz1 hv ho HG hv'
  generalize bodyN l = N at *
  go_wp2_with fail
  refine bodyPost_ret (v := .tuple #[.agg #[.int .i64 0, .int .i64 0, .int .i64 0, .int .i64 0, .int .i64 0], .slice none 0 0]) ?_ rfl ?_
  ·simp [results, Tryz.results266, go_sem, c0, c1, c2, c3, c4]
  ·exact ⟨none, 0, by rw [HF.out, HF.out, HF.out, HF.out, HF.out]; rfl, by rw [HQ.out]; exact By.nil_ _, fun hN => absurd hN (by omega), five_ext HE.out (Nat.le_refl _) _ _ _ _ _⟩
end
section
open Go Go.RowKit
def Piece (B : Nat) (w' : World) (A' : Option Addr) (N n : Nat) (l : List Nat) : Prop := 0 < N → ∃ g c', A' = some ⟨g, 17, none⟩ ∧ 17 + N ≤ n ∧ w'.ownsRow B 5 1 (.slice (some ⟨g, 0, none⟩) n c') n (vb l)
theorem own_baseF {w : World} {b b' n : Nat} {e : TypeId} {s : Nat} {v : Value} {xs : List Value} (h : w.ownsRow b e s v n xs) (hb : b' ≤ b) : w.ownsRow b' e s v n xs := by
 refine ⟨h.1, ?_⟩
 rcases h.2 with h0 | ⟨g, cap, cur, hv, hbg, h1⟩
 ·exact .inl h0
 ·exact .inr ⟨g, cap, cur, hv, Nat.le_trans hb hbg, h1⟩
theorem own_block {w V : World} {b n g c : Nat} {e : TypeId} {s : Nat} {xs : List Value} (h : w.ownsRow b e s (.slice (some ⟨g, 0, none⟩) n c) n xs) (hk : ∀ o, w.heap[g]? = some o → V.heap[g]? = some o) : V.ownsRow b e s (.slice (some ⟨g, 0, none⟩) n c) n xs := by
 refine ⟨h.1, ?_⟩
 rcases h.2 with h0 | ⟨g', cap, cur, hv, hbg, hg, h1⟩
 ·exact .inl h0
 ·injection hv with hv1 hv2 hv3
  injection hv1 with hv1
  injection hv1 with hv1
  subst hv1; subst hv3
  exact .inr ⟨g, c, cur, rfl, hbg, hk _ hg, h1⟩
theorem ql_by {V : World} {g n c N : Nat} {A' : Option Addr} {l : List Nat} (h : By V (some ⟨g, 0, none⟩) n c l) (hA : 0 < N → A' = some ⟨g, 17, none⟩ ∧ 17 + N ≤ n) (hN : (ql l).length = N) (hm : N ≤ 9223372036854775807) : By V A' N N (ql l) := by
 by_cases h0 : N = 0
 ·subst h0
  rw [List.eq_nil_of_length_eq_zero hN]
  exact ⟨rfl, Nat.le_refl _, by omega, Rd.nil_, fun _ => rfl⟩
 ·obtain ⟨rfl, hle⟩ := hA (by omega)
  have hs := h.sub 17 N N hle (Nat.le_refl _) hm
  rw [Nat.zero_add] at hs
  by_cases ho : okB l = true
  ·obtain ⟨_, hn⟩ := okB_parts ho
   rw [ql_yes ho, bodyOf_len hn] at hN
   rw [ql_yes ho]
   unfold bodyOf
   rw [hN]
   exact hs
  ·rw [ql_no (by simpa using ho)] at hN
   exact absurd hN.symm h0
set_option maxHeartbeats 6400000 in
theorem open_early (A : Option Addr) (n cp : Nat) (l : List Nat) (w : World) (hb : By w A n cp l) (h : szB l = false ∨ zeroB l = true) :
 Calls Tryz.prog 248 #[.slice A n cp] w fun r w' => r = .returned (.tuple #[.int .u8 (stN l), .agg #[.int .i64 0, .int .i64 0, .int .i64 0, .int .i64 0, .int .i64 0], .slice none 0 0]) ∧ Ext w w' := by
 have hz := heap_alloc_new w (.cells #[.int .i64 0, .int .i64 0, .int .i64 0, .int .i64 0, .int .i64 0] 44)
 have hE := (Ext.refl w).alloc (.cells #[.int .i64 0, .int .i64 0, .int .i64 0, .int .i64 0, .int .i64 0] 44)
 have HN : Hid (l.length = n) := Lib.hid (Bs.len hb)
 have hmost : n ≤ 9223372036854775807 := Nat.le_trans (Bs.cap hb) (Bs.most hb)
 have HB := Lib.hid hb
 have HE := Lib.hid hE
 have HZ := Lib.hid hz
 clear hb hE hz
 by_cases hs : szB l = false
 ·have HS := Lib.hid (stN_size hs)
  have hr := room_ws hs
  rw [HN.out] at hr
  obtain ⟨⟨c0, c1, c2, c3, c4⟩, f0, f1, f2, f3, f4⟩ := five_cells HZ.out
  clear hs h
  go_enter Tryz.func248, Tryz.ntmps248
  go_wp2_with fail
  refine (whole_any A n cp _ hmost).mono ?_
  rintro r w1 ⟨rfl, rfl⟩
  go_wp2_with fail
  refine (room_any _ _).mono ?_
  rw [hr]
  rintro r w1 ⟨rfl, rfl⟩
  clear hr
  go_wp2_with fail
  refine bodyPost_ret (v := .tuple #[.int .u8 2, .agg #[.int .i64 0, .int .i64 0, .int .i64 0, .int .i64 0, .int .i64 0], .slice none 0 0]) ?_ rfl ?_
  ·simp [results, Tryz.results248, go_sem, c0, c1, c2, c3, c4]
  ·exact ⟨by rw [HS.out]; rfl, by first | exact five_ext HE.out (Nat.le_refl _) _ _ _ _ _ | exact HE.out⟩
 ·have hs' : szB l = true := by simpa using hs
  have hz' : zeroB l = true := by rcases h with h | h; exact absurd h hs; exact h
  have HS := Lib.hid (stN_blank hs' hz')
  have hr := room_pos hs'
  have hw := ws_div hs'
  rw [HN.out] at hw hr
  have hg : (((roomN ((wsN n : Nat) : Int) : Nat) : Int) == 0) = false := by rw [hw]; simpa using hr
  have HZB := Lib.hid hz'
  clear hs h hs' hz' hw hr
  go_enter Tryz.func248, Tryz.ntmps248
  go_wp2_with fail
  refine (whole_any A n cp _ hmost).mono ?_
  rintro r w1 ⟨rfl, rfl⟩
  go_wp2_with fail
  refine (room_any _ _).mono ?_
  rintro r w1 ⟨rfl, rfl⟩
  generalize roomN ((wsN n : Nat) : Int) = R at *
  go_wp2_with fail
  refine (isZero_any A n cp l _ (HB.out.ext HE.out)).mono ?_
  rw [HZB.out]
  rintro r w1 ⟨rfl, hx⟩
  have hz1 := (hx.block _ (Array.getElem?_eq_some_iff.1 HZ.out).1).trans HZ.out
  have HE := Lib.hid (HE.out.trans hx)
  obtain ⟨⟨c0, c1, c2, c3, c4⟩, f0, f1, f2, f3, f4⟩ := five_cells hz1
  clear hx hz1
  go_wp2_with fail
  refine bodyPost_ret (v := .tuple #[.int .u8 0, .agg #[.int .i64 0, .int .i64 0, .int .i64 0, .int .i64 0, .int .i64 0], .slice none 0 0]) ?_ rfl ?_
  ·simp [results, Tryz.results248, go_sem, c0, c1, c2, c3, c4]
  ·exact ⟨by rw [HS.out]; rfl, by first | exact five_ext HE.out (Nat.le_refl _) _ _ _ _ _ | exact HE.out⟩
set_option maxHeartbeats 6400000 in
theorem open_late (A : Option Addr) (n cp : Nat) (l : List Nat) (w : World) (hL : LaidF w) (hb : By w A n cp l) (hs : szB l = true) (hzb : zeroB l = false) :
 Calls Tryz.prog 248 #[.slice A n cp] w fun r w' => ∃ A' N, r = .returned (.tuple #[.int .u8 (stN l), .agg #[.int .i64 (ofl l 0), .int .i64 (ofl l 1), .int .i64 (ofl l 2), .int .i64 (ofl l 3), .int .i64 (ofl l 4)], .slice A' N N]) ∧ By w' A' N N (obl l) ∧ Piece w.heap.size w' A' N n l ∧ Ext w w' := by
 have hz := heap_alloc_new w (.cells #[.int .i64 0, .int .i64 0, .int .i64 0, .int .i64 0, .int .i64 0] 44)
 have hE := (Ext.refl w).alloc (.cells #[.int .i64 0, .int .i64 0, .int .i64 0, .int .i64 0, .int .i64 0] 44)
 have HN : Hid (l.length = n) := Lib.hid (Bs.len hb)
 have hmost : n ≤ 9223372036854775807 := Nat.le_trans (Bs.cap hb) (Bs.most hb)
 have hsz := szB_iff.1 hs
 rw [HN.out] at hsz
 have hr := room_pos hs
 have hw := ws_div hs
 rw [HN.out] at hw hr
 obtain ⟨S, hS⟩ : ∃ S, n / 64 = S := ⟨_, rfl⟩
 rw [hS] at hw hr
 have HS : Hid (l.length / 64 = S) := Lib.hid (by rw [HN.out]; exact hS)
 have hg : (((roomN ((S : Nat) : Int) : Nat) : Int) == 0) = false := by simpa using hr
 have HB := Lib.hid hb
 have HL := Lib.hid hL
 have HE := Lib.hid hE
 have HZ := Lib.hid hz
 have HZB := Lib.hid hzb
 have HSZ := Lib.hid hs
 have hn64 : 64 ≤ n := by omega
 have hn128 : n ≤ 128 := by omega
 clear hb hL hE hz hzb hs hS hr hsz
 go_enter Tryz.func248, Tryz.ntmps248
 go_wp2_with fail
 refine (whole_any A n cp _ hmost).mono ?_
 rw [hw]
 rintro r w1 ⟨rfl, rfl⟩
 clear hw
 go_wp2_with fail
 refine (room_any _ _).mono ?_
 rintro r w1 ⟨rfl, rfl⟩
 generalize roomN ((S : Nat) : Int) = R at *
 go_wp2_with fail
 refine (isZero_any A n cp l _ (HB.out.ext HE.out)).mono ?_
 rw [HZB.out]
 rintro r w1 ⟨rfl, hx⟩
 have hz1 := (hx.block _ (Array.getElem?_eq_some_iff.1 HZ.out).1).trans HZ.out
 have HE := Lib.hid (HE.out.trans hx)
 have HZ := Lib.hid hz1
 clear hx hz1
 go_wp2_with fail
 refine (clone_by A l n cp _ (HB.out.ext HE.out) (by omega)).mono ?_
 rintro r w2 ⟨A2, c2, rfl, hb2, hx, hown⟩
 obtain ⟨g, cap, hv⟩ := Go.Joins.ownsRow_form hown (by omega)
 injection hv with hv _ hcap
 subst hv; subst hcap
 have hz1 := (hx.block _ (Array.getElem?_eq_some_iff.1 HZ.out).1).trans HZ.out
 have hne : w.heap.size ≠ g := by have h1 := (hown.lt g rfl).1; have h2 := (Array.getElem?_eq_some_iff.1 HZ.out).1; omega
 have HO := Lib.hid (own_baseF hown (Ext.size HE.out))
 have HE := Lib.hid (HE.out.trans hx)
 have HZ := Lib.hid hz1
 have HB2 := Lib.hid hb2
 clear hx hz1 hown hb2
 go_wp2_with fail
 refine (parts_any g n c2 l _ (HL.out.ext HE.out).a HB2.out hn64 hn128).mono ?_
 rintro r w3 ⟨A3, N, rfl, hb3, hpc, hx⟩
 have hz1 := (hx.block _ (Array.getElem?_eq_some_iff.1 HZ.out).1).trans HZ.out
 have HE := Lib.hid (HE.out.trans hx)
 have HZ := Lib.hid hz1
 have HB3 := Lib.hid hb3
 have HP := Lib.hid hpc
 have HO := Lib.hid (own_ext HO.out hx)
 obtain ⟨⟨c0, c1, c2', c3, c4⟩, f0, f1, f2, f3, f4⟩ := five_cells hz1
 clear hx hz1 hb3 hpc HB2
 go_wp2_with fail
 have hrow := five_row HZ.out (.int .i64 (qf l 0)) (.int .i64 (qf l 1)) (.int .i64 (qf l 2)) (.int .i64 (qf l 3)) (.int .i64 (qf l 4))
 have hx := five_ext HE.out (Nat.le_refl _) (.int .i64 (qf l 0)) (.int .i64 (qf l 1)) (.int .i64 (qf l 2)) (.int .i64 (qf l 3)) (.int .i64 (qf l 4))
 have hown := own_block HO.out (V := (((((w3.setCell ⟨w.heap.size, 0, none⟩ (.int .i64 (qf l 0))).setCell ⟨w.heap.size, 1, none⟩ (.int .i64 (qf l 1))).setCell ⟨w.heap.size, 2, none⟩ (.int .i64 (qf l 2))).setCell ⟨w.heap.size, 3, none⟩ (.int .i64 (qf l 3))).setCell ⟨w.heap.size, 4, none⟩ (.int .i64 (qf l 4)))) (fun o ho => five_block hne HZ.out ho _ _ _ _ _)
 clear c0 c1 c2' c3 c4 f0 f1 f2 f3 f4
 have hqN : (ql l).length = N := HB3.out.len
 have hqm : N ≤ 9223372036854775807 := HB3.out.most
 generalize (((((w3.setCell ⟨w.heap.size, 0, none⟩ (.int .i64 (qf l 0))).setCell ⟨w.heap.size, 1, none⟩ (.int .i64 (qf l 1))).setCell ⟨w.heap.size, 2, none⟩ (.int .i64 (qf l 2))).setCell ⟨w.heap.size, 3, none⟩ (.int .i64 (qf l 3))).setCell ⟨w.heap.size, 4, none⟩ (.int .i64 (qf l 4))) = V at *
 have HO := Lib.hid hown
 have HBq := Lib.hid (ql_by (Bs.of_own hown HB.out.rd.lt) HP.out hqN hqm)
 have HE := Lib.hid hx
 have HZ := Lib.hid hrow
 have HRE : Hid (sealE (qf l 0) (qf l 1) (qf l 2) (qf l 3) (qf l 4) N ((S : Nat) : Int) = reE l) := Lib.hid (by unfold reE; rw [HS.out, hqN])
 have HRL : Hid (sealL (qf l 0) (qf l 1) (qf l 2) (qf l 3) (qf l 4) (ql l) ((S : Nat) : Int) = reL l) := Lib.hid (by unfold reL; rw [HS.out])
 clear hown hx hrow HB3 hqN hqm
 refine (seal_any _ _ _ _ _ _ _ _ _ (ql l) _ (HL.out.ext HE.out) HBq.out).mono ?_
 rw [HRE.out, HRL.out]
 rintro r w4 ⟨A4, c4, rfl, hb4, hx⟩
 have hz1 := (hx.block _ (Array.getElem?_eq_some_iff.1 HZ.out).1).trans HZ.out
 have HO := Lib.hid (own_ext HO.out hx)
 have HBq := Lib.hid (HBq.out.ext hx)
 have HE := Lib.hid (HE.out.trans hx)
 have HZ := Lib.hid hz1
 have HB4 := Lib.hid hb4
 obtain ⟨⟨d0, d1, d2, d3, d4⟩, f0, f1, f2, f3, f4⟩ := five_cells hz1
 clear hx hz1 hb4
 by_cases hre : reE l = 0
 ·have hgood := re_yes HSZ.out HB.out.rd.lt hre
  rw [hre]
  generalize reL l = RL at *
  go_wp2_with fail
  refine (equal_by _ _ RL l _ n _ cp _ HB4.out (HB.out.ext HE.out)).mono ?_
  by_cases hg2 : RL = l
  ·rw [decide_eq_true hg2] at hgood ⊢
   have HG := Lib.hid hgood
   have HF : Hid (∀ k, qf l k = ofl l k) := Lib.hid fun k => by rw [qf_yes (good_okB hgood), ofl_yes hgood]
   have HQ : Hid (ql l = obl l) := Lib.hid (by rw [ql_yes (good_okB hgood), obl_yes hgood])
   have HST := Lib.hid (stN_good hgood)
   clear hgood hg2
   rintro r w5 ⟨rfl, rfl⟩
   go_wp2_with fail
   generalize hh0 : w.heap.size = h0 at *
   have HN0 := Lib.hid hh0
   clear hh0
   go_region_held3 (fun w' => w'.cell? ⟨h0, 0, none⟩ = some (.int .i64 (qf l 0)) ∧ w'.cell? ⟨h0, 1, none⟩ = some (.int .i64 (qf l 1)) ∧ w'.cell? ⟨h0, 2, none⟩ = some (.int .i64 (qf l 2)) ∧ w'.cell? ⟨h0, 3, none⟩ = some (.int .i64 (qf l 3)) ∧ w'.cell? ⟨h0, 4, none⟩ = some (.int .i64 (qf l 4)))
    (first | with_reducible exact ⟨d0, d1, d2, d3, d4⟩ | with_reducible exact five_near_drew HZ.out _ _ _ _ _ | go_keep)
    (first | (go_at_call 0; fail))
   have hrow := five_row HZ.out (.int .i64 (qf l 0)) (.int .i64 (qf l 1)) (.int .i64 (qf l 2)) (.int .i64 (qf l 3)) (.int .i64 (qf l 4))
   have hx := five_ext HE.out (g := h0) (Nat.le_of_eq HN0.out) (.int .i64 (qf l 0)) (.int .i64 (qf l 1)) (.int .i64 (qf l 2)) (.int .i64 (qf l 3)) (.int .i64 (qf l 4))
   have hown := own_block HO.out (V := (((((w4.setCell ⟨h0, 0, none⟩ (.int .i64 (qf l 0))).setCell ⟨h0, 1, none⟩ (.int .i64 (qf l 1))).setCell ⟨h0, 2, none⟩ (.int .i64 (qf l 2))).setCell ⟨h0, 3, none⟩ (.int .i64 (qf l 3))).setCell ⟨h0, 4, none⟩ (.int .i64 (qf l 4)))) (fun o ho => five_block hne HZ.out ho _ _ _ _ _)
   have hqN : (ql l).length = N := HBq.out.len
   have hqm : N ≤ 9223372036854775807 := HBq.out.most
   clear d0 d1 d2 d3 d4 f0 f1 f2 f3 f4
   generalize (((((w4.setCell ⟨h0, 0, none⟩ (.int .i64 (qf l 0))).setCell ⟨h0, 1, none⟩ (.int .i64 (qf l 1))).setCell ⟨h0, 2, none⟩ (.int .i64 (qf l 2))).setCell ⟨h0, 3, none⟩ (.int .i64 (qf l 3))).setCell ⟨h0, 4, none⟩ (.int .i64 (qf l 4))) = V at hrow hx hown ⊢
   have HO := Lib.hid (own_ext hown ((Ext.refl V).drew))
   have HBq := Lib.hid (ql_by (Bs.of_own HO.out HB.out.rd.lt) HP.out hqN hqm)
   obtain ⟨⟨e0, e1, e2, e3, e4⟩, _⟩ := five_cells hrow
   have HX := Lib.hid hx.drew
   clear hrow hx hown hqN hqm
   go_wp2_with fail
   refine bodyPost_ret (v := .tuple #[.int .u8 1, .agg #[.int .i64 (qf l 0), .int .i64 (qf l 1), .int .i64 (qf l 2), .int .i64 (qf l 3), .int .i64 (qf l 4)], .slice A3 N N]) ?_ rfl ?_
   ·simp [results, Tryz.results248, go_sem, e0, e1, e2, e3, e4]
   ·exact ⟨A3, N, by rw [HF.out, HF.out, HF.out, HF.out, HF.out, HST.out]; rfl, by rw [← HQ.out]; exact HBq.out, fun hN => ⟨g, c2, (HP.out hN).1, (HP.out hN).2, by rw [HN0.out]; exact HO.out⟩, HX.out⟩
  ·rw [decide_eq_false hg2] at hgood ⊢
   have HF : Hid (∀ k, ofl l k = 0) := Lib.hid (ofl_no hgood)
   have HQ : Hid (obl l = []) := Lib.hid (obl_no hgood)
   have HST := Lib.hid (stN_bad HZB.out hgood)
   clear hg2
   clear hgood
   rintro r w5 ⟨rfl, rfl⟩
   go_wp2_with fail
   refine bodyPost_ret (v := .tuple #[.int .u8 2, .agg #[.int .i64 0, .int .i64 0, .int .i64 0, .int .i64 0, .int .i64 0], .slice none 0 0]) ?_ rfl ?_
   ·simp [results, Tryz.results248, go_sem, d0, d1, d2, d3, d4]
   ·exact ⟨none, 0, by rw [HF.out, HF.out, HF.out, HF.out, HF.out, HST.out]; rfl, by rw [HQ.out]; exact By.nil_ _, fun hN => absurd hN (by omega), five_ext HE.out (Nat.le_refl _) _ _ _ _ _⟩
 ·have hgood := re_no HSZ.out hre
  have hne0 : (reE l != 0) = true := by simpa using hre
  have HF : Hid (∀ k, ofl l k = 0) := Lib.hid (ofl_no hgood)
  have HQ : Hid (obl l = []) := Lib.hid (obl_no hgood)
  have HST := Lib.hid (stN_bad HZB.out hgood)
  clear hgood
  clear hre
  generalize reE l = E at *
  go_wp2_with fail
  refine bodyPost_ret (v := .tuple #[.int .u8 2, .agg #[.int .i64 0, .int .i64 0, .int .i64 0, .int .i64 0, .int .i64 0], .slice none 0 0]) ?_ rfl ?_
  ·simp [results, Tryz.results248, go_sem, d0, d1, d2, d3, d4]
  ·exact ⟨none, 0, by rw [HF.out, HF.out, HF.out, HF.out, HF.out, HST.out]; rfl, by rw [HQ.out]; exact By.nil_ _, fun hN => absurd hN (by omega), five_ext HE.out (Nat.le_refl _) _ _ _ _ _⟩
theorem open_any (A : Option Addr) (n cp : Nat) (l : List Nat) (w : World) (hL : LaidF w) (hb : By w A n cp l) :
 Calls Tryz.prog 248 #[.slice A n cp] w fun r w' => ∃ A' N, r = .returned (.tuple #[.int .u8 (stN l), .agg #[.int .i64 (ofl l 0), .int .i64 (ofl l 1), .int .i64 (ofl l 2), .int .i64 (ofl l 3), .int .i64 (ofl l 4)], .slice A' N N]) ∧ By w' A' N N (obl l) ∧ Piece w.heap.size w' A' N n l ∧ Ext w w' := by
 by_cases h : szB l = false ∨ zeroB l = true
 ·have hg : goodB l = false := by rcases h with h | h; exact size_bad h; exact zero_bad h
  refine (open_early A n cp l w hb h).mono ?_
  rintro r w' ⟨rfl, hx⟩
  exact ⟨none, 0, by rw [ofl_no hg, ofl_no hg, ofl_no hg, ofl_no hg, ofl_no hg]; rfl, by rw [obl_no hg]; exact By.nil_ _, fun hN => absurd hN (by omega), hx⟩
 ·exact open_late A n cp l w hL hb (by
   by_cases hs : szB l = true
   ·exact hs
   ·exact absurd (.inl (by simpa using hs)) h) (by
   by_cases hz : zeroB l = true
   ·exact absurd (.inr hz) h
   ·simpa using hz)
end
section
open Go Go.RowKit
def mineB (l : List Nat) (x y z : Int) : Bool := goodB l && (decide ((ofl l 0 : Int) = x) && (decide ((ofl l 1 : Int) = y) && decide ((ofl l 2 : Int) = z)))
def stM (l : List Nat) (x y z : Int) : Nat := if goodB l = true then (if mineB l x y z = true then 1 else 2) else stN l
def mfl (l : List Nat) (x y z : Int) (k : Nat) : Nat := if mineB l x y z = true then ofl l k else 0
def mbl (l : List Nat) (x y z : Int) : List Nat := if mineB l x y z = true then obl l else []
theorem mineB_bad {l : List Nat} {x y z : Int} (h : goodB l = false) : mineB l x y z = false := by unfold mineB; rw [h]; rfl
theorem mine_bad {l : List Nat} {x y z : Int} (h : goodB l = false) : stM l x y z = stN l ∧ (∀ k, mfl l x y z k = ofl l k) ∧ mbl l x y z = obl l := by
 refine ⟨by unfold stM; rw [if_neg (by rw [h]; simp)], fun k => ?_, ?_⟩
 ·unfold mfl; rw [if_neg (by rw [mineB_bad h]; simp), ofl_no h]
 ·unfold mbl; rw [if_neg (by rw [mineB_bad h]; simp), obl_no h]
theorem mine_yes {l : List Nat} {x y z : Int} (h : goodB l = true) (hm : mineB l x y z = true) : stM l x y z = 1 ∧ (∀ k, mfl l x y z k = ofl l k) ∧ mbl l x y z = obl l := by
 refine ⟨by unfold stM; rw [if_pos h, if_pos hm], fun k => ?_, ?_⟩
 ·unfold mfl; rw [if_pos hm]
 ·unfold mbl; rw [if_pos hm]
theorem mine_no {l : List Nat} {x y z : Int} (h : goodB l = true) (hm : mineB l x y z = false) : stM l x y z = 2 ∧ (∀ k, mfl l x y z k = 0) ∧ mbl l x y z = [] := by
 refine ⟨by unfold stM; rw [if_pos h, if_neg (by rw [hm]; simp)], fun k => ?_, ?_⟩
 ·unfold mfl; rw [if_neg (by rw [hm]; simp)]
 ·unfold mbl; rw [if_neg (by rw [hm]; simp)]
theorem mineB_iff {l : List Nat} {x y z : Int} (h : goodB l = true) : mineB l x y z = true ↔ (ofl l 0 : Int) = x ∧ (ofl l 1 : Int) = y ∧ (ofl l 2 : Int) = z := by
 unfold mineB
 rw [h]
 simp
theorem By.far {W V : World} {A : Option Addr} {n c h0 : Nat} {l : List Nat} (h : By W A n c l) (hne : ∀ g o, A = some ⟨g, o, none⟩ → 0 < n → h0 ≠ g) (hk : ∀ g k, h0 ≠ g → V.cell? ⟨g, k, none⟩ = W.cell? ⟨g, k, none⟩) (hs : W.heap.size ≤ V.heap.size) : By V A n c l := by
 refine ⟨h.len, h.cap, h.most, ⟨h.rd.lt, fun hn => ?_⟩, Bs.nil_ h⟩
 obtain ⟨g, o, e, hg, hc⟩ := h.rd.2 hn
 have hne' := hne g o e (by have := h.len; omega)
 exact ⟨g, o, e, by omega, fun j x hx => (hk g (o + j) hne').trans (hc j x hx)⟩
theorem five_size (w : World) (g : Nat) (x0 x1 x2 x3 x4 : Value) : w.heap.size ≤ (((((w.setCell ⟨g, 0, none⟩ x0).setCell ⟨g, 1, none⟩ x1).setCell ⟨g, 2, none⟩ x2).setCell ⟨g, 3, none⟩ x3).setCell ⟨g, 4, none⟩ x4).heap.size := by
 simp [World.setCell]
theorem By.five {W : World} {A : Option Addr} {n c h0 : Nat} {l : List Nat} (h : By W A n c l) (hne : ∀ g o, A = some ⟨g, o, none⟩ → 0 < n → h0 ≠ g) (x0 x1 x2 x3 x4 : Value) :
 By (((((W.setCell ⟨h0, 0, none⟩ x0).setCell ⟨h0, 1, none⟩ x1).setCell ⟨h0, 2, none⟩ x2).setCell ⟨h0, 3, none⟩ x3).setCell ⟨h0, 4, none⟩ x4) A n c l :=
 h.far hne (fun _ _ hg => five_far hg _ _ _ _ _) (five_size _ _ _ _ _ _ _)
theorem Piece.ge {B : Nat} {w' : World} {A' : Option Addr} {N n : Nat} {l : List Nat} (h : Piece B w' A' N n l) : ∀ g o, A' = some ⟨g, o, none⟩ → 0 < N → B ≤ g := by
 intro g o e hN
 obtain ⟨g', c', e', _, ho⟩ := h hN
 rw [e] at e'
 injection e' with e'
 injection e' with e1 _
 subst e1
 exact (ho.lt g rfl).1
theorem Piece.ne {B : Nat} {w' : World} {A' : Option Addr} {N n h0 : Nat} {l : List Nat} (h : Piece B w' A' N n l) (hb : h0 < B) : ∀ g o, A' = some ⟨g, o, none⟩ → 0 < N → h0 ≠ g := by
 intro g o e hN
 obtain ⟨g', c', e', _, ho⟩ := h hN
 rw [e] at e'
 injection e' with e'
 injection e' with e1 _
 subst e1
 have := (ho.lt g rfl).1
 omega
set_option maxHeartbeats 6400000 in
theorem mine_own (A : Option Addr) (n cp : Nat) (l : List Nat) (x y z : Int) (w : World) (hL : LaidF w) (hb : By w A n cp l) :
 Calls Tryz.prog 221 #[.slice A n cp, .int .i64 x, .int .i64 y, .int .i64 z] w fun r w' => ∃ A' N, r = .returned (.tuple #[.int .u8 (stM l x y z), .agg #[.int .i64 (mfl l x y z 0), .int .i64 (mfl l x y z 1), .int .i64 (mfl l x y z 2), .int .i64 (mfl l x y z 3), .int .i64 (mfl l x y z 4)], .slice A' N N]) ∧ By w' A' N N (mbl l x y z) ∧ (∀ g o, A' = some ⟨g, o, none⟩ → 0 < N → w.heap.size ≤ g) ∧ Ext w w' := by
 have hz := heap_alloc_new w (.cells #[.int .i64 0, .int .i64 0, .int .i64 0, .int .i64 0, .int .i64 0] 44)
 have hE := (Ext.refl w).alloc (.cells #[.int .i64 0, .int .i64 0, .int .i64 0, .int .i64 0, .int .i64 0] 44)
 have HB := Lib.hid hb
 have HL := Lib.hid hL
 have HE := Lib.hid hE
 have HZ := Lib.hid hz
 clear hb hL hE hz
 go_enter Tryz.func221, Tryz.ntmps221
 go_wp2_with fail
 refine (open_any A n cp l _ (HL.out.ext HE.out) (HB.out.ext HE.out)).mono ?_
 rintro r w1 ⟨A1, N, rfl, hb1, hpc, hx⟩
 have hz1 := (hx.block _ (Array.getElem?_eq_some_iff.1 HZ.out).1).trans HZ.out
 have HE := Lib.hid (HE.out.trans hx)
 have HZ := Lib.hid hz1
 have HB1 := Lib.hid hb1
 obtain ⟨⟨c0, c1, c2, c3, c4⟩, f0, f1, f2, f3, f4⟩ := five_cells hz1
 have HNE := Lib.hid (hpc.ne (h0 := w.heap.size) (by simp))
 have HGE : Hid (∀ g o, A1 = some ⟨g, o, none⟩ → 0 < N → w.heap.size ≤ g) := Lib.hid fun g o hA hN => Nat.le_trans (by simp) (hpc.ge g o hA hN)
 clear hx hz1 hb1 hpc
 by_cases hg : goodB l = true
 ·have HST : Hid (stN l = 1) := Lib.hid (stN_good hg)
  rw [HST.out]
  by_cases hm : mineB l x y z = true
  ·obtain ⟨e1, e2, e3⟩ := mine_yes hg hm
   have HR : Hid (stM l x y z = 1 ∧ (∀ k, mfl l x y z k = ofl l k) ∧ mbl l x y z = obl l) := Lib.hid ⟨e1, e2, e3⟩
   obtain ⟨rfl, rfl, rfl⟩ := (mineB_iff hg).1 hm
   clear e1 e2 e3 hg hm
   go_wp2_with fail
   have hrow := five_row HZ.out (.int .i64 (ofl l 0)) (.int .i64 (ofl l 1)) (.int .i64 (ofl l 2)) (.int .i64 (ofl l 3)) (.int .i64 (ofl l 4))
   have hx := five_ext HE.out (Nat.le_refl _) (.int .i64 (ofl l 0)) (.int .i64 (ofl l 1)) (.int .i64 (ofl l 2)) (.int .i64 (ofl l 3)) (.int .i64 (ofl l 4))
   have hby := HB1.out.five HNE.out (.int .i64 (ofl l 0)) (.int .i64 (ofl l 1)) (.int .i64 (ofl l 2)) (.int .i64 (ofl l 3)) (.int .i64 (ofl l 4))
   clear c0 c1 c2 c3 c4 f0 f1 f2 f3 f4
   generalize (((((w1.setCell ⟨w.heap.size, 0, none⟩ (.int .i64 (ofl l 0))).setCell ⟨w.heap.size, 1, none⟩ (.int .i64 (ofl l 1))).setCell ⟨w.heap.size, 2, none⟩ (.int .i64 (ofl l 2))).setCell ⟨w.heap.size, 3, none⟩ (.int .i64 (ofl l 3))).setCell ⟨w.heap.size, 4, none⟩ (.int .i64 (ofl l 4))) = W at *
   generalize hh0 : w.heap.size = h0 at *
   obtain ⟨⟨d0, d1, d2, d3, d4⟩, f0, f1, f2, f3, f4⟩ := five_cells hrow
   have HZ := Lib.hid hrow
   have HE := Lib.hid hx
   have HB1 := Lib.hid hby
   have HN0 := Lib.hid hh0
   clear hh0 hrow hx hby
   go_region_held3 (fun w' => w'.cell? ⟨h0, 0, none⟩ = some (.int .i64 (ofl l 0)) ∧ w'.cell? ⟨h0, 1, none⟩ = some (.int .i64 (ofl l 1)) ∧ w'.cell? ⟨h0, 2, none⟩ = some (.int .i64 (ofl l 2)) ∧ w'.cell? ⟨h0, 3, none⟩ = some (.int .i64 (ofl l 3)) ∧ w'.cell? ⟨h0, 4, none⟩ = some (.int .i64 (ofl l 4)))
    (first | with_reducible exact ⟨d0, d1, d2, d3, d4⟩ | with_reducible exact five_near_drew HZ.out _ _ _ _ _ | go_keep)
    (first | (go_at_call 0; fail))
   have hrow := five_row HZ.out (.int .i64 (ofl l 0)) (.int .i64 (ofl l 1)) (.int .i64 (ofl l 2)) (.int .i64 (ofl l 3)) (.int .i64 (ofl l 4))
   have hx := five_ext HE.out (g := h0) (Nat.le_of_eq HN0.out) (.int .i64 (ofl l 0)) (.int .i64 (ofl l 1)) (.int .i64 (ofl l 2)) (.int .i64 (ofl l 3)) (.int .i64 (ofl l 4))
   have hby := HB1.out.five HNE.out (.int .i64 (ofl l 0)) (.int .i64 (ofl l 1)) (.int .i64 (ofl l 2)) (.int .i64 (ofl l 3)) (.int .i64 (ofl l 4))
   clear d0 d1 d2 d3 d4 f0 f1 f2 f3 f4
   generalize (((((W.setCell ⟨h0, 0, none⟩ (.int .i64 (ofl l 0))).setCell ⟨h0, 1, none⟩ (.int .i64 (ofl l 1))).setCell ⟨h0, 2, none⟩ (.int .i64 (ofl l 2))).setCell ⟨h0, 3, none⟩ (.int .i64 (ofl l 3))).setCell ⟨h0, 4, none⟩ (.int .i64 (ofl l 4))) = V at hrow hx hby ⊢
   obtain ⟨⟨e0, e1, e2, e3, e4⟩, _⟩ := five_cells hrow
   have HB1 := Lib.hid (hby.ext ((Ext.refl V).drew))
   have HX := Lib.hid hx.drew
   clear hrow hx hby
   go_wp2_with fail
   refine bodyPost_ret (v := .tuple #[.int .u8 1, .agg #[.int .i64 (ofl l 0), .int .i64 (ofl l 1), .int .i64 (ofl l 2), .int .i64 (ofl l 3), .int .i64 (ofl l 4)], .slice A1 N N]) ?_ rfl ?_
   ·simp [results, Tryz.results221, go_sem, e0, e1, e2, e3, e4]
   ·exact ⟨A1, N, by rw [HR.out.1, HR.out.2.1, HR.out.2.1, HR.out.2.1, HR.out.2.1, HR.out.2.1]; rfl, by rw [HR.out.2.2]; exact HB1.out, by rw [HN0.out]; exact HGE.out, HX.out⟩
  ·have hm' : mineB l x y z = false := by simpa using hm
   obtain ⟨e1, e2, e3⟩ := mine_no hg hm'
   have HR : Hid (stM l x y z = 2 ∧ (∀ k, mfl l x y z k = 0) ∧ mbl l x y z = []) := Lib.hid ⟨e1, e2, e3⟩
   rw [mineB_iff hg] at hm
   clear e1 e2 e3 hm'
   by_cases h0 : (ofl l 0 : Int) = x
   ·by_cases h1 : (ofl l 1 : Int) = y
    ·have h2 : ¬ (ofl l 2 : Int) = z := fun h => hm ⟨h0, h1, h⟩
     subst h0; subst h1
     have g2 : ((ofl l 2 : Int) != z) = true := by simpa using h2
     clear hm hg h2
     have hz2 := five_row HZ.out (.int .i64 (ofl l 0)) (.int .i64 (ofl l 1)) (.int .i64 (ofl l 2)) (.int .i64 (ofl l 3)) (.int .i64 (ofl l 4))
     have hz3 := five_row hz2 (.int .i64 0) (.int .i64 0) (.int .i64 0) (.int .i64 0) (.int .i64 0)
     have hx := five_ext HE.out (Nat.le_refl _) (.int .i64 (ofl l 0)) (.int .i64 (ofl l 1)) (.int .i64 (ofl l 2)) (.int .i64 (ofl l 3)) (.int .i64 (ofl l 4))
     have hx3 := five_ext hx (Nat.le_refl _) (.int .i64 0) (.int .i64 0) (.int .i64 0) (.int .i64 0) (.int .i64 0)
     have HZ3 := Lib.hid hz3
     have HX3 := Lib.hid hx3
     clear hz2 hz3 hx hx3
     go_wp2_with fail
     have hz3 := HZ3.out
     have hx3 := HX3.out
     generalize ((((((((((w1.setCell ⟨w.heap.size, 0, none⟩ (.int .i64 (ofl l 0))).setCell ⟨w.heap.size, 1, none⟩ (.int .i64 (ofl l 1))).setCell ⟨w.heap.size, 2, none⟩ (.int .i64 (ofl l 2))).setCell ⟨w.heap.size, 3, none⟩ (.int .i64 (ofl l 3))).setCell ⟨w.heap.size, 4, none⟩ (.int .i64 (ofl l 4))).setCell ⟨w.heap.size, 0, none⟩ (.int .i64 0)).setCell ⟨w.heap.size, 1, none⟩ (.int .i64 0)).setCell ⟨w.heap.size, 2, none⟩ (.int .i64 0)).setCell ⟨w.heap.size, 3, none⟩ (.int .i64 0)).setCell ⟨w.heap.size, 4, none⟩ (.int .i64 0)) = V at hz3 hx3 ⊢
     obtain ⟨⟨e0, e1, e2, e3, e4⟩, _⟩ := five_cells hz3
     refine bodyPost_ret (v := .tuple #[.int .u8 2, .agg #[.int .i64 0, .int .i64 0, .int .i64 0, .int .i64 0, .int .i64 0], .slice none 0 0]) ?_ rfl ?_
     ·simp [results, Tryz.results221, go_sem, e0, e1, e2, e3, e4]
     ·exact ⟨none, 0, by rw [HR.out.1, HR.out.2.1, HR.out.2.1, HR.out.2.1, HR.out.2.1, HR.out.2.1]; rfl, by rw [HR.out.2.2]; exact By.nil_ _, fun g o hA hN => absurd hN (by omega), hx3⟩
    ·subst h0
     have g1 : ((ofl l 1 : Int) != y) = true := by simpa using h1
     clear hm hg h1
     have hz2 := five_row HZ.out (.int .i64 (ofl l 0)) (.int .i64 (ofl l 1)) (.int .i64 (ofl l 2)) (.int .i64 (ofl l 3)) (.int .i64 (ofl l 4))
     have hz3 := five_row hz2 (.int .i64 0) (.int .i64 0) (.int .i64 0) (.int .i64 0) (.int .i64 0)
     have hx := five_ext HE.out (Nat.le_refl _) (.int .i64 (ofl l 0)) (.int .i64 (ofl l 1)) (.int .i64 (ofl l 2)) (.int .i64 (ofl l 3)) (.int .i64 (ofl l 4))
     have hx3 := five_ext hx (Nat.le_refl _) (.int .i64 0) (.int .i64 0) (.int .i64 0) (.int .i64 0) (.int .i64 0)
     have HZ3 := Lib.hid hz3
     have HX3 := Lib.hid hx3
     clear hz2 hz3 hx hx3
     go_wp2_with fail
     have hz3 := HZ3.out
     have hx3 := HX3.out
     generalize ((((((((((w1.setCell ⟨w.heap.size, 0, none⟩ (.int .i64 (ofl l 0))).setCell ⟨w.heap.size, 1, none⟩ (.int .i64 (ofl l 1))).setCell ⟨w.heap.size, 2, none⟩ (.int .i64 (ofl l 2))).setCell ⟨w.heap.size, 3, none⟩ (.int .i64 (ofl l 3))).setCell ⟨w.heap.size, 4, none⟩ (.int .i64 (ofl l 4))).setCell ⟨w.heap.size, 0, none⟩ (.int .i64 0)).setCell ⟨w.heap.size, 1, none⟩ (.int .i64 0)).setCell ⟨w.heap.size, 2, none⟩ (.int .i64 0)).setCell ⟨w.heap.size, 3, none⟩ (.int .i64 0)).setCell ⟨w.heap.size, 4, none⟩ (.int .i64 0)) = V at hz3 hx3 ⊢
     obtain ⟨⟨e0, e1, e2, e3, e4⟩, _⟩ := five_cells hz3
     refine bodyPost_ret (v := .tuple #[.int .u8 2, .agg #[.int .i64 0, .int .i64 0, .int .i64 0, .int .i64 0, .int .i64 0], .slice none 0 0]) ?_ rfl ?_
     ·simp [results, Tryz.results221, go_sem, e0, e1, e2, e3, e4]
     ·exact ⟨none, 0, by rw [HR.out.1, HR.out.2.1, HR.out.2.1, HR.out.2.1, HR.out.2.1, HR.out.2.1]; rfl, by rw [HR.out.2.2]; exact By.nil_ _, fun g o hA hN => absurd hN (by omega), hx3⟩
   ·have g0 : ((ofl l 0 : Int) != x) = true := by simpa using h0
    clear hm hg h0
    have hz2 := five_row HZ.out (.int .i64 (ofl l 0)) (.int .i64 (ofl l 1)) (.int .i64 (ofl l 2)) (.int .i64 (ofl l 3)) (.int .i64 (ofl l 4))
    have hz3 := five_row hz2 (.int .i64 0) (.int .i64 0) (.int .i64 0) (.int .i64 0) (.int .i64 0)
    have hx := five_ext HE.out (Nat.le_refl _) (.int .i64 (ofl l 0)) (.int .i64 (ofl l 1)) (.int .i64 (ofl l 2)) (.int .i64 (ofl l 3)) (.int .i64 (ofl l 4))
    have hx3 := five_ext hx (Nat.le_refl _) (.int .i64 0) (.int .i64 0) (.int .i64 0) (.int .i64 0) (.int .i64 0)
    have HZ3 := Lib.hid hz3
    have HX3 := Lib.hid hx3
    clear hz2 hz3 hx hx3
    go_wp2_with fail
    have hz3 := HZ3.out
    have hx3 := HX3.out
    generalize ((((((((((w1.setCell ⟨w.heap.size, 0, none⟩ (.int .i64 (ofl l 0))).setCell ⟨w.heap.size, 1, none⟩ (.int .i64 (ofl l 1))).setCell ⟨w.heap.size, 2, none⟩ (.int .i64 (ofl l 2))).setCell ⟨w.heap.size, 3, none⟩ (.int .i64 (ofl l 3))).setCell ⟨w.heap.size, 4, none⟩ (.int .i64 (ofl l 4))).setCell ⟨w.heap.size, 0, none⟩ (.int .i64 0)).setCell ⟨w.heap.size, 1, none⟩ (.int .i64 0)).setCell ⟨w.heap.size, 2, none⟩ (.int .i64 0)).setCell ⟨w.heap.size, 3, none⟩ (.int .i64 0)).setCell ⟨w.heap.size, 4, none⟩ (.int .i64 0)) = V at hz3 hx3 ⊢
    obtain ⟨⟨e0, e1, e2, e3, e4⟩, _⟩ := five_cells hz3
    refine bodyPost_ret (v := .tuple #[.int .u8 2, .agg #[.int .i64 0, .int .i64 0, .int .i64 0, .int .i64 0, .int .i64 0], .slice none 0 0]) ?_ rfl ?_
    ·simp [results, Tryz.results221, go_sem, e0, e1, e2, e3, e4]
    ·exact ⟨none, 0, by rw [HR.out.1, HR.out.2.1, HR.out.2.1, HR.out.2.1, HR.out.2.1, HR.out.2.1]; rfl, by rw [HR.out.2.2]; exact By.nil_ _, fun g o hA hN => absurd hN (by omega), hx3⟩
 ·have hg' : goodB l = false := by simpa using hg
  obtain ⟨e1, e2, e3⟩ := mine_bad (x := x) (y := y) (z := z) hg'
  have HR : Hid (stM l x y z = stN l ∧ (∀ k, mfl l x y z k = ofl l k) ∧ mbl l x y z = obl l) := Lib.hid ⟨e1, e2, e3⟩
  have hst : ¬ stN l = 1 := fun h => hg (stN_one.1 h)
  have g0 : ((stN l : Int) == 1) = false := by simp; omega
  clear e1 e2 e3 hg hg' hst
  generalize stN l = st at *
  go_wp2_with fail
  have hrow := five_row HZ.out (.int .i64 (ofl l 0)) (.int .i64 (ofl l 1)) (.int .i64 (ofl l 2)) (.int .i64 (ofl l 3)) (.int .i64 (ofl l 4))
  have hx := five_ext HE.out (Nat.le_refl _) (.int .i64 (ofl l 0)) (.int .i64 (ofl l 1)) (.int .i64 (ofl l 2)) (.int .i64 (ofl l 3)) (.int .i64 (ofl l 4))
  have hby := HB1.out.five HNE.out (.int .i64 (ofl l 0)) (.int .i64 (ofl l 1)) (.int .i64 (ofl l 2)) (.int .i64 (ofl l 3)) (.int .i64 (ofl l 4))
  clear c0 c1 c2 c3 c4 f0 f1 f2 f3 f4
  generalize (((((w1.setCell ⟨w.heap.size, 0, none⟩ (.int .i64 (ofl l 0))).setCell ⟨w.heap.size, 1, none⟩ (.int .i64 (ofl l 1))).setCell ⟨w.heap.size, 2, none⟩ (.int .i64 (ofl l 2))).setCell ⟨w.heap.size, 3, none⟩ (.int .i64 (ofl l 3))).setCell ⟨w.heap.size, 4, none⟩ (.int .i64 (ofl l 4))) = W at *
  generalize hh0 : w.heap.size = h0 at *
  obtain ⟨⟨d0, d1, d2, d3, d4⟩, f0, f1, f2, f3, f4⟩ := five_cells hrow
  have HZ := Lib.hid hrow
  have HE := Lib.hid hx
  have HB1 := Lib.hid hby
  have HN0 := Lib.hid hh0
  clear hh0 hrow hx hby
  go_region_held3 (fun w' => w'.cell? ⟨h0, 0, none⟩ = some (.int .i64 (ofl l 0)) ∧ w'.cell? ⟨h0, 1, none⟩ = some (.int .i64 (ofl l 1)) ∧ w'.cell? ⟨h0, 2, none⟩ = some (.int .i64 (ofl l 2)) ∧ w'.cell? ⟨h0, 3, none⟩ = some (.int .i64 (ofl l 3)) ∧ w'.cell? ⟨h0, 4, none⟩ = some (.int .i64 (ofl l 4)))
   (first | with_reducible exact ⟨d0, d1, d2, d3, d4⟩ | with_reducible exact five_near_drew HZ.out _ _ _ _ _ | go_keep)
   (first | (go_at_call 0; fail))
  have hrow := five_row HZ.out (.int .i64 (ofl l 0)) (.int .i64 (ofl l 1)) (.int .i64 (ofl l 2)) (.int .i64 (ofl l 3)) (.int .i64 (ofl l 4))
  have hx := five_ext HE.out (g := h0) (Nat.le_of_eq HN0.out) (.int .i64 (ofl l 0)) (.int .i64 (ofl l 1)) (.int .i64 (ofl l 2)) (.int .i64 (ofl l 3)) (.int .i64 (ofl l 4))
  have hby := HB1.out.five HNE.out (.int .i64 (ofl l 0)) (.int .i64 (ofl l 1)) (.int .i64 (ofl l 2)) (.int .i64 (ofl l 3)) (.int .i64 (ofl l 4))
  clear d0 d1 d2 d3 d4 f0 f1 f2 f3 f4
  generalize (((((W.setCell ⟨h0, 0, none⟩ (.int .i64 (ofl l 0))).setCell ⟨h0, 1, none⟩ (.int .i64 (ofl l 1))).setCell ⟨h0, 2, none⟩ (.int .i64 (ofl l 2))).setCell ⟨h0, 3, none⟩ (.int .i64 (ofl l 3))).setCell ⟨h0, 4, none⟩ (.int .i64 (ofl l 4))) = V at hrow hx hby ⊢
  obtain ⟨⟨e0, e1, e2, e3, e4⟩, _⟩ := five_cells hrow
  have HB1 := Lib.hid (hby.ext ((Ext.refl V).drew))
  have HX := Lib.hid hx.drew
  clear hrow hx hby
  go_wp2_with fail
  refine bodyPost_ret (v := .tuple #[.int .u8 st, .agg #[.int .i64 (ofl l 0), .int .i64 (ofl l 1), .int .i64 (ofl l 2), .int .i64 (ofl l 3), .int .i64 (ofl l 4)], .slice A1 N N]) ?_ rfl ?_
  ·simp [results, Tryz.results221, go_sem, e0, e1, e2, e3, e4]
  ·exact ⟨A1, N, by rw [HR.out.1, HR.out.2.1, HR.out.2.1, HR.out.2.1, HR.out.2.1, HR.out.2.1], by rw [HR.out.2.2]; exact HB1.out, by rw [HN0.out]; exact HGE.out, HX.out⟩
theorem mine_any (A : Option Addr) (n cp : Nat) (l : List Nat) (x y z : Int) (w : World) (hL : LaidF w) (hb : By w A n cp l) :
 Calls Tryz.prog 221 #[.slice A n cp, .int .i64 x, .int .i64 y, .int .i64 z] w fun r w' => ∃ A' N, r = .returned (.tuple #[.int .u8 (stM l x y z), .agg #[.int .i64 (mfl l x y z 0), .int .i64 (mfl l x y z 1), .int .i64 (mfl l x y z 2), .int .i64 (mfl l x y z 3), .int .i64 (mfl l x y z 4)], .slice A' N N]) ∧ By w' A' N N (mbl l x y z) ∧ Ext w w' :=
 (mine_own A n cp l x y z w hL hb).mono fun _ _ ⟨A', N, h1, h2, _, h4⟩ => ⟨A', N, h1, h2, h4⟩
end
end Go.Proofs.YtmpaocpgoihliaaGreatDoor

/-
  The contract of the frame's Open: what bytes are; the body is the call's own.
-/
import Derived.Test.YtlikhmhomkiadaaDoorQ14
import Derived.Test.YtlikhmhomkiadaaDoorQ20
import Derived.Lib.SmallJoins
namespace Go.Proofs.YtlikhmhomkiadaaDoor
set_option maxRecDepth 100000
open Go Go.RowKit

/-- A body that is told lies in a copy of the bytes, which the call itself has made. -/
def Piece (B : Nat) (w' : World) (A' : Option Addr) (N n : Nat) (l : List Nat) : Prop := 0 < N → ∃ g c', A' = some ⟨g, 17, none⟩ ∧ 17 + N ≤ n ∧ w'.ownsRow B 5 1 (.slice (some ⟨g, 0, none⟩) n c') n (vb l)
theorem own_base {w : World} {b b' n : Nat} {e : TypeId} {s : Nat} {v : Value} {xs : List Value} (h : w.ownsRow b e s v n xs) (hb : b' ≤ b) : w.ownsRow b' e s v n xs := by
  refine ⟨h.1, ?_⟩
  rcases h.2 with h0 | ⟨g, cap, cur, hv, hbg, h1⟩
  · exact .inl h0
  · exact .inr ⟨g, cap, cur, hv, Nat.le_trans hb hbg, h1⟩

theorem own_block {w V : World} {b n g c : Nat} {e : TypeId} {s : Nat} {xs : List Value} (h : w.ownsRow b e s (.slice (some ⟨g, 0, none⟩) n c) n xs) (hk : ∀ o, w.heap[g]? = some o → V.heap[g]? = some o) : V.ownsRow b e s (.slice (some ⟨g, 0, none⟩) n c) n xs := by
  refine ⟨h.1, ?_⟩
  rcases h.2 with h0 | ⟨g', cap, cur, hv, hbg, hg, h1⟩
  · exact .inl h0
  · injection hv with hv1 hv2 hv3
    injection hv1 with hv1
    injection hv1 with hv1
    subst hv1; subst hv3
    exact .inr ⟨g, c, cur, rfl, hbg, hk _ hg, h1⟩
theorem ql_by {V : World} {g n c N : Nat} {A' : Option Addr} {l : List Nat} (h : By V (some ⟨g, 0, none⟩) n c l) (hA : 0 < N → A' = some ⟨g, 17, none⟩ ∧ 17 + N ≤ n) (hN : (ql l).length = N) (hm : N ≤ 9223372036854775807) : By V A' N N (ql l) := by
  by_cases h0 : N = 0
  · subst h0
    rw [List.eq_nil_of_length_eq_zero hN]
    exact ⟨rfl, Nat.le_refl _, by omega, Rd.nil_, fun _ => rfl⟩
  · obtain ⟨rfl, hle⟩ := hA (by omega)
    have hs := h.sub 17 N N hle (Nat.le_refl _) hm
    rw [Nat.zero_add] at hs
    by_cases ho : okB l = true
    · obtain ⟨_, hn⟩ := okB_parts ho
      rw [ql_yes ho, bodyOf_len hn] at hN
      rw [ql_yes ho]
      unfold bodyOf
      rw [hN]
      exact hs
    · rw [ql_no (by simpa using ho)] at hN
      exact absurd hN.symm h0

set_option maxRecDepth 100000 in
set_option maxHeartbeats 6400000 in
theorem open_early (A : Option Addr) (n cp : Nat) (l : List Nat) (w : World) (hb : By w A n cp l) (h : szB l = false ∨ zeroB l = true) :
    Calls Tryd.prog 80 #[.slice A n cp] w fun r w' => r = .returned (.tuple #[.int .u8 (stN l), .agg #[.int .i64 0, .int .i64 0, .int .i64 0, .int .i64 0, .int .i64 0], .slice none 0 0]) ∧ Ext w w' := by
  have hz := heap_alloc_new w (.cells #[.int .i64 0, .int .i64 0, .int .i64 0, .int .i64 0, .int .i64 0] 97)
  have hE := (Ext.refl w).alloc (.cells #[.int .i64 0, .int .i64 0, .int .i64 0, .int .i64 0, .int .i64 0] 97)
  have HN : Hid (l.length = n) := Lib.hid (Bs.len hb)
  have hmost : n ≤ 9223372036854775807 := Nat.le_trans (Bs.cap hb) (Bs.most hb)
  have HB := Lib.hid hb
  have HE := Lib.hid hE
  have HZ := Lib.hid hz
  clear hb hE hz
  by_cases hs : szB l = false
  · have HS := Lib.hid (stN_size hs)
    have hr := room_ws hs
    rw [HN.out] at hr
    obtain ⟨⟨c0, c1, c2, c3, c4⟩, f0, f1, f2, f3, f4⟩ := five_cells HZ.out
    clear hs h
    go_enter Tryd.func80, Tryd.ntmps80
    go_wp2_with fail
    refine (whole_any A n cp _ hmost).mono ?_
    rintro r w1 ⟨rfl, rfl⟩
    go_wp2_with fail
    refine (room_any _ _).mono ?_
    rw [hr]
    rintro r w1 ⟨rfl, rfl⟩
    clear hr
    go_wp2_with fail
    refine bodyPost_ret (v := .tuple #[.int .u8 2, .agg #[.int .i64 0, .int .i64 0, .int .i64 0, .int .i64 0, .int .i64 0], .slice none 0 0]) ?_ rfl ?_
    · simp [results, Tryd.results80, go_sem, c0, c1, c2, c3, c4]
    · exact ⟨by rw [HS.out]; rfl, by first | exact five_ext HE.out (Nat.le_refl _) _ _ _ _ _ | exact HE.out⟩
  · have hs' : szB l = true := by simpa using hs
    have hz' : zeroB l = true := by rcases h with h | h; exact absurd h hs; exact h
    have HS := Lib.hid (stN_blank hs' hz')
    have hr := room_pos hs'
    have hw := ws_div hs'
    rw [HN.out] at hw hr
    have hg : (((roomN ((wsN n : Nat) : Int) : Nat) : Int) == 0) = false := by rw [hw]; simpa using hr
    have HZB := Lib.hid hz'
    clear hs h hs' hz' hw hr
    go_enter Tryd.func80, Tryd.ntmps80
    go_wp2_with fail
    refine (whole_any A n cp _ hmost).mono ?_
    rintro r w1 ⟨rfl, rfl⟩
    go_wp2_with fail
    refine (room_any _ _).mono ?_
    rintro r w1 ⟨rfl, rfl⟩
    generalize roomN ((wsN n : Nat) : Int) = R at *
    go_wp2_with fail
    refine (isZero_any A n cp l _ (HB.out.ext HE.out)).mono ?_
    rw [HZB.out]
    rintro r w1 ⟨rfl, hx⟩
    have hz1 := (hx.block _ (Array.getElem?_eq_some_iff.1 HZ.out).1).trans HZ.out
    have HE := Lib.hid (HE.out.trans hx)
    obtain ⟨⟨c0, c1, c2, c3, c4⟩, f0, f1, f2, f3, f4⟩ := five_cells hz1
    clear hx hz1
    go_wp2_with fail
    refine bodyPost_ret (v := .tuple #[.int .u8 0, .agg #[.int .i64 0, .int .i64 0, .int .i64 0, .int .i64 0, .int .i64 0], .slice none 0 0]) ?_ rfl ?_
    · simp [results, Tryd.results80, go_sem, c0, c1, c2, c3, c4]
    · exact ⟨by rw [HS.out]; rfl, by first | exact five_ext HE.out (Nat.le_refl _) _ _ _ _ _ | exact HE.out⟩

set_option maxRecDepth 100000 in
set_option maxHeartbeats 6400000 in
theorem open_late (A : Option Addr) (n cp : Nat) (l : List Nat) (w : World) (hL : LaidF w) (hb : By w A n cp l) (hs : szB l = true) (hzb : zeroB l = false) :
    Calls Tryd.prog 80 #[.slice A n cp] w fun r w' => ∃ A' N, r = .returned (.tuple #[.int .u8 (stN l), .agg #[.int .i64 (ofl l 0), .int .i64 (ofl l 1), .int .i64 (ofl l 2), .int .i64 (ofl l 3), .int .i64 (ofl l 4)], .slice A' N N]) ∧ By w' A' N N (obl l) ∧ Piece w.heap.size w' A' N n l ∧ Ext w w' := by
  have hz := heap_alloc_new w (.cells #[.int .i64 0, .int .i64 0, .int .i64 0, .int .i64 0, .int .i64 0] 97)
  have hE := (Ext.refl w).alloc (.cells #[.int .i64 0, .int .i64 0, .int .i64 0, .int .i64 0, .int .i64 0] 97)
  have HN : Hid (l.length = n) := Lib.hid (Bs.len hb)
  have hmost : n ≤ 9223372036854775807 := Nat.le_trans (Bs.cap hb) (Bs.most hb)
  have hsz := szB_iff.1 hs
  rw [HN.out] at hsz
  have hr := room_pos hs
  have hw := ws_div hs
  rw [HN.out] at hw hr
  obtain ⟨S, hS⟩ : ∃ S, n / 64 = S := ⟨_, rfl⟩
  rw [hS] at hw hr
  have HS : Hid (l.length / 64 = S) := Lib.hid (by rw [HN.out]; exact hS)
  have hg : (((roomN ((S : Nat) : Int) : Nat) : Int) == 0) = false := by simpa using hr
  have HB := Lib.hid hb
  have HL := Lib.hid hL
  have HE := Lib.hid hE
  have HZ := Lib.hid hz
  have HZB := Lib.hid hzb
  have HSZ := Lib.hid hs
  have hn64 : 64 ≤ n := by omega
  have hn128 : n ≤ 128 := by omega
  clear hb hL hE hz hzb hs hS hr hsz
  go_enter Tryd.func80, Tryd.ntmps80
  go_wp2_with fail
  refine (whole_any A n cp _ hmost).mono ?_
  rw [hw]
  rintro r w1 ⟨rfl, rfl⟩
  clear hw
  go_wp2_with fail
  refine (room_any _ _).mono ?_
  rintro r w1 ⟨rfl, rfl⟩
  generalize roomN ((S : Nat) : Int) = R at *
  go_wp2_with fail
  refine (isZero_any A n cp l _ (HB.out.ext HE.out)).mono ?_
  rw [HZB.out]
  rintro r w1 ⟨rfl, hx⟩
  have hz1 := (hx.block _ (Array.getElem?_eq_some_iff.1 HZ.out).1).trans HZ.out
  have HE := Lib.hid (HE.out.trans hx)
  have HZ := Lib.hid hz1
  clear hx hz1
  go_wp2_with fail
  refine (clone_by A l n cp _ (HB.out.ext HE.out) (by omega)).mono ?_
  rintro r w2 ⟨A2, c2, rfl, hb2, hx, hown⟩
  obtain ⟨g, cap, hv⟩ := Go.Joins.ownsRow_form hown (by omega)
  injection hv with hv _ hcap
  subst hv; subst hcap
  have hz1 := (hx.block _ (Array.getElem?_eq_some_iff.1 HZ.out).1).trans HZ.out
  have hne : w.heap.size ≠ g := by have h1 := (hown.lt g rfl).1; have h2 := (Array.getElem?_eq_some_iff.1 HZ.out).1; omega
  have HO := Lib.hid (own_base hown (Ext.size HE.out))
  have HE := Lib.hid (HE.out.trans hx)
  have HZ := Lib.hid hz1
  have HB2 := Lib.hid hb2
  clear hx hz1 hown hb2
  go_wp2_with fail
  refine (parts_any g n c2 l _ (HL.out.ext HE.out).a HB2.out hn64 hn128).mono ?_
  rintro r w3 ⟨A3, N, rfl, hb3, hpc, hx⟩
  have hz1 := (hx.block _ (Array.getElem?_eq_some_iff.1 HZ.out).1).trans HZ.out
  have HE := Lib.hid (HE.out.trans hx)
  have HZ := Lib.hid hz1
  have HB3 := Lib.hid hb3
  have HP := Lib.hid hpc
  have HO := Lib.hid (own_ext HO.out hx)
  obtain ⟨⟨c0, c1, c2', c3, c4⟩, f0, f1, f2, f3, f4⟩ := five_cells hz1
  clear hx hz1 hb3 hpc HB2
  go_wp2_with fail
  have hrow := five_row HZ.out (.int .i64 (qf l 0)) (.int .i64 (qf l 1)) (.int .i64 (qf l 2)) (.int .i64 (qf l 3)) (.int .i64 (qf l 4))
  have hx := five_ext HE.out (Nat.le_refl _) (.int .i64 (qf l 0)) (.int .i64 (qf l 1)) (.int .i64 (qf l 2)) (.int .i64 (qf l 3)) (.int .i64 (qf l 4))
  have hown := own_block HO.out (V := (((((w3.setCell ⟨w.heap.size, 0, none⟩ (.int .i64 (qf l 0))).setCell ⟨w.heap.size, 1, none⟩ (.int .i64 (qf l 1))).setCell ⟨w.heap.size, 2, none⟩ (.int .i64 (qf l 2))).setCell ⟨w.heap.size, 3, none⟩ (.int .i64 (qf l 3))).setCell ⟨w.heap.size, 4, none⟩ (.int .i64 (qf l 4)))) (fun o ho => five_block hne HZ.out ho _ _ _ _ _)
  clear c0 c1 c2' c3 c4 f0 f1 f2 f3 f4
  have hqN : (ql l).length = N := HB3.out.len
  have hqm : N ≤ 9223372036854775807 := HB3.out.most
  generalize (((((w3.setCell ⟨w.heap.size, 0, none⟩ (.int .i64 (qf l 0))).setCell ⟨w.heap.size, 1, none⟩ (.int .i64 (qf l 1))).setCell ⟨w.heap.size, 2, none⟩ (.int .i64 (qf l 2))).setCell ⟨w.heap.size, 3, none⟩ (.int .i64 (qf l 3))).setCell ⟨w.heap.size, 4, none⟩ (.int .i64 (qf l 4))) = V at *
  have HO := Lib.hid hown
  have HBq := Lib.hid (ql_by (Bs.of_own hown HB.out.rd.lt) HP.out hqN hqm)
  have HE := Lib.hid hx
  have HZ := Lib.hid hrow
  have HRE : Hid (sealE (qf l 0) (qf l 1) (qf l 2) (qf l 3) (qf l 4) N ((S : Nat) : Int) = reE l) := Lib.hid (by unfold reE; rw [HS.out, hqN])
  have HRL : Hid (sealL (qf l 0) (qf l 1) (qf l 2) (qf l 3) (qf l 4) (ql l) ((S : Nat) : Int) = reL l) := Lib.hid (by unfold reL; rw [HS.out])
  clear hown hx hrow HB3 hqN hqm
  refine (seal_any _ _ _ _ _ _ _ _ _ (ql l) _ (HL.out.ext HE.out) HBq.out).mono ?_
  rw [HRE.out, HRL.out]
  rintro r w4 ⟨A4, c4, rfl, hb4, hx⟩
  have hz1 := (hx.block _ (Array.getElem?_eq_some_iff.1 HZ.out).1).trans HZ.out
  have HO := Lib.hid (own_ext HO.out hx)
  have HBq := Lib.hid (HBq.out.ext hx)
  have HE := Lib.hid (HE.out.trans hx)
  have HZ := Lib.hid hz1
  have HB4 := Lib.hid hb4
  obtain ⟨⟨d0, d1, d2, d3, d4⟩, f0, f1, f2, f3, f4⟩ := five_cells hz1
  clear hx hz1 hb4
  by_cases hre : reE l = 0
  · have hgood := re_yes HSZ.out HB.out.rd.lt hre
    rw [hre]
    generalize reL l = RL at *
    go_wp2_with fail
    refine (equal_by _ _ RL l _ n _ cp _ HB4.out (HB.out.ext HE.out)).mono ?_
    by_cases hg2 : RL = l
    · rw [decide_eq_true hg2] at hgood ⊢
      have HG := Lib.hid hgood
      have HF : Hid (∀ k, qf l k = ofl l k) := Lib.hid fun k => by rw [qf_yes (good_okB hgood), ofl_yes hgood]
      have HQ : Hid (ql l = obl l) := Lib.hid (by rw [ql_yes (good_okB hgood), obl_yes hgood])
      have HST := Lib.hid (stN_good hgood)
      clear hgood hg2
      rintro r w5 ⟨rfl, rfl⟩
      go_wp2_with fail
      generalize hh0 : w.heap.size = h0 at *
      have HN0 := Lib.hid hh0
      clear hh0
      go_region_held3 (fun w' => w'.cell? ⟨h0, 0, none⟩ = some (.int .i64 (qf l 0)) ∧ w'.cell? ⟨h0, 1, none⟩ = some (.int .i64 (qf l 1)) ∧ w'.cell? ⟨h0, 2, none⟩ = some (.int .i64 (qf l 2)) ∧ w'.cell? ⟨h0, 3, none⟩ = some (.int .i64 (qf l 3)) ∧ w'.cell? ⟨h0, 4, none⟩ = some (.int .i64 (qf l 4)))
        (first | with_reducible exact ⟨d0, d1, d2, d3, d4⟩ | with_reducible exact five_near_drew HZ.out _ _ _ _ _ | go_keep)
        (first | (go_at_call 0; fail))
      have hrow := five_row HZ.out (.int .i64 (qf l 0)) (.int .i64 (qf l 1)) (.int .i64 (qf l 2)) (.int .i64 (qf l 3)) (.int .i64 (qf l 4))
      have hx := five_ext HE.out (g := h0) (Nat.le_of_eq HN0.out) (.int .i64 (qf l 0)) (.int .i64 (qf l 1)) (.int .i64 (qf l 2)) (.int .i64 (qf l 3)) (.int .i64 (qf l 4))
      have hown := own_block HO.out (V := (((((w4.setCell ⟨h0, 0, none⟩ (.int .i64 (qf l 0))).setCell ⟨h0, 1, none⟩ (.int .i64 (qf l 1))).setCell ⟨h0, 2, none⟩ (.int .i64 (qf l 2))).setCell ⟨h0, 3, none⟩ (.int .i64 (qf l 3))).setCell ⟨h0, 4, none⟩ (.int .i64 (qf l 4)))) (fun o ho => five_block hne HZ.out ho _ _ _ _ _)
      have hqN : (ql l).length = N := HBq.out.len
      have hqm : N ≤ 9223372036854775807 := HBq.out.most
      clear d0 d1 d2 d3 d4 f0 f1 f2 f3 f4
      generalize (((((w4.setCell ⟨h0, 0, none⟩ (.int .i64 (qf l 0))).setCell ⟨h0, 1, none⟩ (.int .i64 (qf l 1))).setCell ⟨h0, 2, none⟩ (.int .i64 (qf l 2))).setCell ⟨h0, 3, none⟩ (.int .i64 (qf l 3))).setCell ⟨h0, 4, none⟩ (.int .i64 (qf l 4))) = V at hrow hx hown ⊢
      have HO := Lib.hid (own_ext hown ((Ext.refl V).drew))
      have HBq := Lib.hid (ql_by (Bs.of_own HO.out HB.out.rd.lt) HP.out hqN hqm)
      obtain ⟨⟨e0, e1, e2, e3, e4⟩, _⟩ := five_cells hrow
      have HX := Lib.hid hx.drew
      clear hrow hx hown hqN hqm
      go_wp2_with fail
      refine bodyPost_ret (v := .tuple #[.int .u8 1, .agg #[.int .i64 (qf l 0), .int .i64 (qf l 1), .int .i64 (qf l 2), .int .i64 (qf l 3), .int .i64 (qf l 4)], .slice A3 N N]) ?_ rfl ?_
      · simp [results, Tryd.results80, go_sem, e0, e1, e2, e3, e4]
      · exact ⟨A3, N, by rw [HF.out, HF.out, HF.out, HF.out, HF.out, HST.out]; rfl, by rw [← HQ.out]; exact HBq.out, fun hN => ⟨g, c2, (HP.out hN).1, (HP.out hN).2, by rw [HN0.out]; exact HO.out⟩, HX.out⟩
    · rw [decide_eq_false hg2] at hgood ⊢
      have HF : Hid (∀ k, ofl l k = 0) := Lib.hid (ofl_no hgood)
      have HQ : Hid (obl l = []) := Lib.hid (obl_no hgood)
      have HST := Lib.hid (stN_bad HZB.out hgood)
      clear hg2
      clear hgood
      rintro r w5 ⟨rfl, rfl⟩
      go_wp2_with fail
      refine bodyPost_ret (v := .tuple #[.int .u8 2, .agg #[.int .i64 0, .int .i64 0, .int .i64 0, .int .i64 0, .int .i64 0], .slice none 0 0]) ?_ rfl ?_
      · simp [results, Tryd.results80, go_sem, d0, d1, d2, d3, d4]
      · exact ⟨none, 0, by rw [HF.out, HF.out, HF.out, HF.out, HF.out, HST.out]; rfl, by rw [HQ.out]; exact By.nil_ _, fun hN => absurd hN (by omega), five_ext HE.out (Nat.le_refl _) _ _ _ _ _⟩
  · have hgood := re_no HSZ.out hre
    have hne0 : (reE l != 0) = true := by simpa using hre
    have HF : Hid (∀ k, ofl l k = 0) := Lib.hid (ofl_no hgood)
    have HQ : Hid (obl l = []) := Lib.hid (obl_no hgood)
    have HST := Lib.hid (stN_bad HZB.out hgood)
    clear hgood
    clear hre
    generalize reE l = E at *
    go_wp2_with fail
    refine bodyPost_ret (v := .tuple #[.int .u8 2, .agg #[.int .i64 0, .int .i64 0, .int .i64 0, .int .i64 0, .int .i64 0], .slice none 0 0]) ?_ rfl ?_
    · simp [results, Tryd.results80, go_sem, d0, d1, d2, d3, d4]
    · exact ⟨none, 0, by rw [HF.out, HF.out, HF.out, HF.out, HF.out, HST.out]; rfl, by rw [HQ.out]; exact By.nil_ _, fun hN => absurd hN (by omega), five_ext HE.out (Nat.le_refl _) _ _ _ _ _⟩

theorem open_any (A : Option Addr) (n cp : Nat) (l : List Nat) (w : World) (hL : LaidF w) (hb : By w A n cp l) :
    Calls Tryd.prog 80 #[.slice A n cp] w fun r w' => ∃ A' N, r = .returned (.tuple #[.int .u8 (stN l), .agg #[.int .i64 (ofl l 0), .int .i64 (ofl l 1), .int .i64 (ofl l 2), .int .i64 (ofl l 3), .int .i64 (ofl l 4)], .slice A' N N]) ∧ By w' A' N N (obl l) ∧ Piece w.heap.size w' A' N n l ∧ Ext w w' := by
  by_cases h : szB l = false ∨ zeroB l = true
  · have hg : goodB l = false := by rcases h with h | h; exact size_bad h; exact zero_bad h
    refine (open_early A n cp l w hb h).mono ?_
    rintro r w' ⟨rfl, hx⟩
    exact ⟨none, 0, by rw [ofl_no hg, ofl_no hg, ofl_no hg, ofl_no hg, ofl_no hg]; rfl, by rw [obl_no hg]; exact By.nil_ _, fun hN => absurd hN (by omega), hx⟩
  · exact open_late A n cp l w hL hb (by
      by_cases hs : szB l = true
      · exact hs
      · exact absurd (.inl (by simpa using hs)) h) (by
      by_cases hz : zeroB l = true
      · exact absurd (.inr hz) h
      · simpa using hz)
end Go.Proofs.YtlikhmhomkiadaaDoor

/-
  The contracts of restBytes, meantBytes and isBad.
  The contract of the document's own Parse.
-/
import Derived.Test.YtlikhmhomkiadaaGreatDoorQ15
import Derived.Test.YtlikhmhomkiadaaGreatDoorQ17
import Derived.Test.YtlikhmhomkiadaaGreatDoorQ18
import Derived.Test.YtlikhmhomkiadaaGreatDoorQ23
import Derived.Deep.RegionHeld3
namespace Go.Proofs.YtlikhmhomkiadaaGreatDoor
set_option maxRecDepth 100000
open Go Go.RowKit

theorem at_new {w : World} {d : Nat} {F : Nat → Prop} {m : DM} (h : PDisk w d F m) (s : Int) : (∀ b ∈ (m.at_ s).1, b < 256) ∧ (m.at_ s).1.length ≤ 64 := by
  obtain ⟨g, pv, hp, _, _⟩ := h
  exact ⟨sect_lt (at_sect hp.ok s), sect_len (at_sect hp.ok s)⟩
theorem means_new {w : World} {d : Nat} {F : Nat → Prop} {m : DM} (h : PDisk w d F m) (s : Int) : (∀ b ∈ (m.means s).1, b < 256) ∧ (m.means s).1.length ≤ 64 := by
  obtain ⟨g, pv, hp, _, _⟩ := h
  exact ⟨sect_lt (means_sect hp.ok s), sect_len (means_sect hp.ok s)⟩

/-- What the observers gather, sector by sector: a row of the call's own. -/
structure Gath (w0 w : World) (v : Value) (l : List Nat) (k : Nat) : Prop where
  own : w.ownsRow w0.heap.size 5 1 v l.length (vb l)
  lt : ∀ b ∈ l, b < 256
  few : l.length ≤ 64 * k
  ext : Ext w0 w
theorem Gath.start (w : World) : Gath w w (.slice none 0 0) [] 0 := ⟨World.ownsRow_nil _ _ _ _, fun b hb => (by cases hb), by simp, Ext.refl w⟩
theorem Gath.more {w0 w w' : World} {v : Value} {l : List Nat} {k : Nat} (h : Gath w0 w v l k) (hx : Ext w w') : Gath w0 w' v l k := ⟨own_ext h.own hx, h.lt, h.few, h.ext.trans hx⟩
theorem Gath.form {w0 w : World} {v : Value} {l : List Nat} {k : Nat} (h : Gath w0 w v l k) : ∃ A c, v = .slice A l.length c ∧ By w A l.length c l := by
  obtain ⟨A, c, rfl, _, _⟩ := own_form h.own
  exact ⟨A, c, rfl, Bs.of_own h.own h.lt⟩
theorem Gath.app {w0 w w' : World} {v v' : Value} {l l2 : List Nat} {k : Nat} (h : Gath w0 w v l k) (hg : w.grownBy w' v.ownBlock) (ho : w'.ownsRow w0.heap.size 5 1 v' (l.length + l2.length) (vb l ++ vb l2)) (hl : ∀ b ∈ l2, b < 256) (hn : l2.length ≤ 64) : Gath w0 w' v' (l ++ l2) (k + 1) := by
  refine ⟨by rw [List.length_append, vb_append]; exact ho, fun b hb => (List.mem_append.1 hb).elim (h.lt b) (hl b), ?_, Below.grown h.ext hg (Ext.size h.ext) (fun g hg' => (h.own.lt g hg').1)⟩
  have := h.few
  rw [List.length_append]
  omega

set_option maxHeartbeats 800000 in
theorem meantBytes_of {w : World} {d : Nat} {F : Nat → Prop} {m : DM} (h : PDisk w d F m) (hL : LaidT w) (g p : Int) (hf : 0 ≤ firstS g p) :
    Calls Tryz.prog 61 #[.pointer (some ⟨d, 0, none⟩), .int .i64 g, .int .i64 p] w fun e w' => ∃ A c, e = .returned (.slice A (m.meantL (firstS g p) (wid g)).length c) ∧ By w' A (m.meantL (firstS g p) (wid g)).length c (m.meantL (firstS g p) (wid g)) ∧ Ext w w' := by
  obtain ⟨i0, hi, hz0, hz1, hz2⟩ := info_parts byte_info
  have hfb : firstS g p ≤ 300 := by
    have h1 := beg_le g
    have h2 := wid_le g
    by_cases hh : 0 ≤ p ∧ p < plc g
    · rw [firstS_yes hh]
      have := plc_le g
      have h3 : p * (wid g : Int) ≤ 48 * 2 := Int.mul_le_mul (by omega) (by omega) (by omega) (by omega)
      omega
    · rw [firstS_no hh]; omega
  have hw2 := wid_le g
  have HF := Lib.hid hf
  have H := Lib.hid h
  have HL := Lib.hid hL
  obtain ⟨S, hS⟩ : ∃ S, firstS g p = S := ⟨_, rfl⟩
  obtain ⟨W, hW⟩ : ∃ W, wid g = W := ⟨_, rfl⟩
  have HS := Lib.hid hS
  have HW := Lib.hid hW
  rw [hS] at hfb hf
  rw [hW] at hw2
  rw [hS, hW]
  clear h hL hS hW HF
  go_enter Tryz.func61, Tryz.ntmps61
  go_wp2_with fail
  refine (wide_any g _ HL.out).mono ?_
  rw [HW.out]
  rintro e w1 ⟨rfl, hx⟩
  have HG := Lib.hid ((Gath.start w).more hx)
  clear hx
  go_wp2_with fail
  go_loopw [7, 13] (fun b i wr => ∃ k : Nat, k ≤ W ∧ i = .int .i64 k ∧ Hid (Gath w wr b (m.meantL S k) k)) (fun _ i _ => W - (intOf i).toNat)
  case atStart => exact ⟨0, Nat.zero_le _, rfl, HG⟩
  case round =>
    obtain ⟨k, hk, rfl, HG⟩ := hrel
    obtain ⟨A, c, rfl, hby⟩ := HG.out.form
    clear hby
    by_cases hlt : k < W
    · have hn := means_new H.out (S + (k : Int))
      have hm : (m.meantL S (k + 1)) = m.meantL S k ++ (m.means (S + (k : Int))).1 := rfl
      have HM := Lib.hid hm
      have HN := Lib.hid hn
      have hfew := HG.out.few
      clear hm hn
      generalize m.meantL S k = L at *
      go_wp2_with fail
      refine (first_any g p _ (HL.out.ext HG.out.ext)).mono ?_
      rw [HS.out]
      rintro e w2 ⟨rfl, hx⟩
      have HG := Lib.hid (HG.out.more hx)
      clear hx
      go_wp2_with fail
      refine (meant_pd (H.out.ext HG.out.ext) (S + (k : Int))).mono ?_
      rintro e w3 ⟨A2, n2, rfl, hnew, hx⟩
      obtain rfl : n2 = (m.means (S + (k : Int))).1.length := hnew.len.symm
      have HB := Lib.hid hnew.by
      have HG := Lib.hid (HG.out.more hx)
      clear hx hnew
      generalize (m.means (S + (k : Int))).1 = L2 at *
      have hl2 := HN.out.2
      have hsz := HG.out.ext.size
      go_wp2_with (at_builtin; refine wpList_append_by rfl _ _ 34 rfl w.heap.size 5 i0 Tryz.underlying34 hi hz0 hz1 hz2 _ L.length (vb L) rfl HG.out.own A2 L2.length L2.length L2 rfl HB.out (by omega) hsz ?_)
      rintro v' w4 hown hgrow
      have HG := Lib.hid (HG.out.app hgrow hown HN.out.1 HN.out.2)
      clear hown hgrow
      go_wp2_with fail
      go_roundw
      case rel => exact ⟨k + 1, by omega, by go_num, by rw [HM.out]; exact HG⟩
      case measure => simp [intOf]; omega
    · obtain rfl : k = W := by omega
      go_wp2_with fail
      go_ret
      obtain ⟨A', c', e, hby⟩ := HG.out.form
      injection e with e1 _ e3
      subst e1; subst e3
      exact ⟨_, _, rfl, hby, HG.out.ext⟩

set_option maxHeartbeats 800000 in
theorem restBytes_of {w : World} {d : Nat} {F : Nat → Prop} {m : DM} (h : PDisk w d F m) (hL : LaidT w) (g p : Int) (hf : 0 ≤ firstS g p) :
    Calls Tryz.prog 114 #[.pointer (some ⟨d, 0, none⟩), .int .i64 g, .int .i64 p] w fun e w' => ∃ A n c l, e = .returned (.tuple #[.slice A n c, .bool (!m.lostB (firstS g p) (wid g))]) ∧ By w' A n c l ∧ (m.lostB (firstS g p) (wid g) = false → l = m.restL (firstS g p) (wid g)) ∧ Ext w w' := by
  obtain ⟨i0, hi, hz0, hz1, hz2⟩ := info_parts byte_info
  have hfb : firstS g p ≤ 300 := by
    have h1 := beg_le g
    have h2 := wid_le g
    by_cases hh : 0 ≤ p ∧ p < plc g
    · rw [firstS_yes hh]
      have := plc_le g
      have h3 : p * (wid g : Int) ≤ 48 * 2 := Int.mul_le_mul (by omega) (by omega) (by omega) (by omega)
      omega
    · rw [firstS_no hh]; omega
  have hw2 := wid_le g
  have H := Lib.hid h
  have HL := Lib.hid hL
  obtain ⟨S, hS⟩ : ∃ S, firstS g p = S := ⟨_, rfl⟩
  obtain ⟨W, hW⟩ : ∃ W, wid g = W := ⟨_, rfl⟩
  have HS := Lib.hid hS
  have HW := Lib.hid hW
  rw [hS] at hfb hf
  rw [hW] at hw2
  rw [hS, hW]
  clear h hL hS hW
  go_enter Tryz.func114, Tryz.ntmps114
  go_wp2_with fail
  refine (wide_any g _ HL.out).mono ?_
  rw [HW.out]
  rintro e w1 ⟨rfl, hx⟩
  have HG := Lib.hid ((Gath.start w).more hx)
  clear hx
  go_wp2_with fail
  go_loopw [8, 15] (fun b i wr => ∃ k : Nat, k ≤ W ∧ i = .int .i64 k ∧ Hid (Gath w wr b (m.restL S k) k) ∧ Hid (m.lostB S k = false)) (fun _ i _ => W - (intOf i).toNat)
  case atStart => exact ⟨0, Nat.zero_le _, rfl, HG, Lib.hid rfl⟩
  case round =>
    obtain ⟨k, hk, rfl, HG, HLO⟩ := hrel
    obtain ⟨A, c, rfl, hby⟩ := HG.out.form
    clear hby
    by_cases hlt : k < W
    · have hn := at_new H.out (S + (k : Int))
      have hm : (m.restL S (k + 1)) = m.restL S k ++ (m.at_ (S + (k : Int))).1 := rfl
      have HM := Lib.hid hm
      have HN := Lib.hid hn
      have hfew := HG.out.few
      have hlo : m.lostB S (k + 1) = (m.at_ (S + (k : Int))).2.1 := by
        have := anyIn_succ (fun s => (m.at_ s).2.1) S k
        have h2 : anyIn (fun s => (m.at_ s).2.1) S k = false := HLO.out
        rw [h2, Bool.false_or] at this
        exact this
      have hany : (m.at_ (S + (k : Int))).2.1 = true → m.lostB S W = true := fun hh => anyIn_iff.2 ⟨_, hh, by omega, by omega⟩
      have HLO2 := Lib.hid hlo
      have HANY := Lib.hid hany
      clear hm hn hlo hany
      generalize m.restL S k = L at *
      go_wp2_with fail
      refine (first_any g p _ (HL.out.ext HG.out.ext)).mono ?_
      rw [HS.out]
      rintro e w2 ⟨rfl, hx⟩
      have HG := Lib.hid (HG.out.more hx)
      clear hx
      go_wp2_with fail
      refine (rest_pd (H.out.ext HG.out.ext) (S + (k : Int))).mono ?_
      rintro e w3 ⟨A2, n2, rfl, hnew, hx⟩
      obtain rfl : n2 = (m.at_ (S + (k : Int))).1.length := hnew.len.symm
      have HB := Lib.hid hnew.by
      have HG := Lib.hid (HG.out.more hx)
      clear hx hnew
      generalize (m.at_ (S + (k : Int))).1 = L2 at *
      generalize (m.at_ (S + (k : Int))).2.2 = E2 at *
      generalize (m.at_ (S + (k : Int))).2.1 = lo at *
      cases lo with
      | true =>
        go_wp2_with fail
        refine bodyPost_ret (v := .tuple #[.slice none 0 0, .bool false]) (by simp [results, Tryz.results114, go_sem]) rfl ?_
        exact ⟨none, 0, 0, [], by rw [HANY.out (by trivial)]; rfl, By.nil_ _, fun hh => (by rw [HANY.out (by trivial)] at hh; cases hh), HG.out.ext⟩
      | false =>
        have hl2 := HN.out.2
        have hsz := HG.out.ext.size
        go_wp2_with (at_builtin; refine wpList_append_by rfl _ _ 34 rfl w.heap.size 5 i0 Tryz.underlying34 hi hz0 hz1 hz2 _ L.length (vb L) rfl HG.out.own A2 L2.length L2.length L2 rfl HB.out (by omega) hsz ?_)
        rintro v' w4 hown hgrow
        have HG := Lib.hid (HG.out.app hgrow hown HN.out.1 HN.out.2)
        clear hown hgrow
        go_wp2_with fail
        go_roundw
        case rel => exact ⟨k + 1, by omega, by go_num, by rw [HM.out]; exact HG, HLO2⟩
        case measure => simp [intOf]; omega
    · obtain rfl : k = W := by omega
      go_wp2_with fail
      obtain ⟨A', c', e, hby⟩ := HG.out.form
      injection e with e1 _ e3
      subst e1; subst e3
      refine bodyPost_ret (v := .tuple #[.slice A (m.restL S k).length c, .bool true]) (by simp [results, Tryz.results114, go_sem]) rfl ?_
      exact ⟨_, _, _, _, by rw [HLO.out]; rfl, hby, fun _ => rfl, HG.out.ext⟩

/-- A hurt place is detectable: one of its sectors is lost, or its bytes are bad there. -/
def DM.badB (m : DM) (r g p : Int) : Bool := m.lostB (firstS g p) (wid g) || decide (stM (m.restL (firstS g p) (wid g)) r g p = 2)
set_option maxHeartbeats 1600000 in
theorem isBad_of {w : World} {d : Nat} {F : Nat → Prop} {m : DM} (h : PDisk w d F m) (hL : LaidF w) (r g p : Int) (hf : 0 ≤ firstS g p) :
    Calls Tryz.prog 51 #[.pointer (some ⟨d, 0, none⟩), .int .i64 r, .int .i64 g, .int .i64 p] w fun e w' => e = .returned (.bool (m.badB r g p)) ∧ Ext w w' := by
  have hr := restBytes_of h hL.a.t g p hf
  obtain ⟨LB, hlb⟩ : ∃ LB, m.lostB (firstS g p) (wid g) = LB := ⟨_, rfl⟩
  obtain ⟨L, hl⟩ : ∃ L, m.restL (firstS g p) (wid g) = L := ⟨_, rfl⟩
  have HBB : Hid (m.badB r g p = (LB || decide (stM L r g p = 2))) := Lib.hid (by unfold DM.badB; rw [hlb, hl])
  rw [hlb, hl] at hr
  have HR := Lib.hid hr
  have HL := Lib.hid hL
  clear h hL hr hlb hl
  go_enter Tryz.func51, Tryz.ntmps51
  go_wp2_with fail
  refine HR.out.mono ?_
  rintro e w1 ⟨A, n, c, l, rfl, hb, hl, hx⟩
  have HX := Lib.hid hx
  have HB := Lib.hid hb
  have HLL := Lib.hid hl
  clear hx hb hl
  go_wp2_with fail
  refine (mine_any A n c l r g p _ (HL.out.ext HX.out) HB.out).mono ?_
  rintro e w2 ⟨A2, n2, rfl, _, hx⟩
  have HX := Lib.hid (HX.out.trans hx)
  clear hx
  cases LB with
  | true =>
    generalize stM l r g p = st at *
    generalize mfl l r g p = fl at *
    go_wp2_with fail
    refine bodyPost_ret (v := .bool true) (by simp [results, Tryz.results51, go_sem]) rfl ?_
    refine ⟨by rw [HBB.out]; rfl, ?_⟩
    exact HX.out.alloc _
  | false =>
    obtain rfl := HLL.out rfl
    have HD : Hid (((stM l r g p : Int) == 2) = decide (stM l r g p = 2)) := Lib.hid (by
      by_cases hh : stM l r g p = 2
      · simp [hh]
      · simp [hh]; omega)
    generalize stM l r g p = st at *
    generalize mfl l r g p = fl at *
    go_wp2_with fail
    refine bodyPost_ret (v := .bool ((st : Int) == 2)) (by simp [results, Tryz.results51, go_sem]) rfl ?_
    refine ⟨by rw [HBB.out, HD.out]; rfl, ?_⟩
    exact HX.out.alloc _
end Go.Proofs.YtlikhmhomkiadaaGreatDoor

namespace Go.Proofs.YtlikhmhomkiadaaGreatDoor
set_option maxRecDepth 100000
open Go Go.RowKit

theorem num_one (x : Nat) : num [x] = x := by simp [num]
theorem pfld_byte {l : List Nat} {k x : Nat} (hk : k < 3) (h : l[k]? = some x) : pfld l k = x := by
  have hj : k = 0 ∨ k = 1 ∨ k = 2 := by omega
  have hp : pos k = k ∧ wth k = 1 := by rcases hj with rfl | rfl | rfl <;> exact ⟨rfl, rfl⟩
  have hl : k < l.length := (List.getElem?_eq_some_iff.1 h).1
  unfold pfld
  rw [hp.1, hp.2, List.drop_eq_getElem_cons hl, List.take_succ_cons, List.take_zero, num_one]
  rw [List.getElem?_eq_getElem hl] at h
  exact Option.some.inj h

set_option maxRecDepth 100000 in
set_option maxHeartbeats 3200000 in
theorem rparse_any (A : Option Addr) (n cp : Nat) (l : List Nat) (w : World) (hb : By w A n cp l) (hn : n ≤ 9000000000000000000) :
    Calls Tryz.prog 140 #[.slice A n cp] w fun r w' => r = .returned (.tuple #[.agg #[.int .i64 (pf l 0), .int .i64 (pf l 1), .int .i64 (pf l 2), .int .i64 (pf l 3), .int .i64 (pf l 4)], .int .i64 (pe l)]) ∧ Ext w w' := by
  have hE := (Ext.refl w).alloc (.cells #[.int .i64 0, .int .i64 0, .int .i64 0, .int .i64 0, .int .i64 0] 33)
  have hz : (w.alloc (.cells #[.int .i64 0, .int .i64 0, .int .i64 0, .int .i64 0, .int .i64 0] 33)).heap[w.heap.size]? = some (.cells #[.int .i64 0, .int .i64 0, .int .i64 0, .int .i64 0, .int .i64 0] 33 (0, 0)) := heap_alloc_new w _
  have HB := Lib.hid (hb.ext hE)
  have HE := Lib.hid hE
  have HZ := Lib.hid hz
  by_cases h15 : n = 15
  · subst h15
    have HG3 := Lib.hid (get_fld (l := l) (k := 3) (by omega) (by rw [hb.len]; decide))
    have HG4 := Lib.hid (get_fld (l := l) (k := 4) (by omega) (by rw [hb.len]; decide))
    obtain ⟨g, o, x0, hA, hg, h0, hx0, c0⟩ := HB.out.rd.at_ (k := 0) (by rw [HB.out.len]; omega)
    subst hA
    obtain ⟨g', o', x1, hA, _, h1, hx1, c1⟩ := HB.out.rd.at_ (k := 1) (by rw [HB.out.len]; omega)
    injection hA with hA; injection hA with hA1 hA2; subst hA1; subst hA2
    obtain ⟨g', o', x2, hA, _, h2, hx2, c2⟩ := HB.out.rd.at_ (k := 2) (by rw [HB.out.len]; omega)
    injection hA with hA; injection hA with hA1 hA2; subst hA1; subst hA2
    have HP0 := Lib.hid (pfld_byte (by omega) h0)
    have HP1 := Lib.hid (pfld_byte (by omega) h1)
    have HP2 := Lib.hid (pfld_byte (by omega) h2)
    have HL := Lib.hid hb.len
    clear hb hE hz h0 h1 h2
    go_enter Tryz.func140, Tryz.ntmps140
    go_wp2_with fail
    refine (rget_any (some ⟨g, o, none⟩) l 15 cp _ 3 6 _ HB.out.len HB.out.rd (by omega)).mono ?_
    rw [show getS l 3 6 = (pfld l 3, 9, 0) from HG3.out]
    rintro r w2 ⟨rfl, rfl⟩
    go_wp2_with fail
    refine (rget_any (some ⟨g, o, none⟩) l 15 cp _ 9 6 _ HB.out.len HB.out.rd (by omega)).mono ?_
    rw [show getS l 9 6 = (pfld l 4, 15, 0) from HG4.out]
    rintro r w2 ⟨rfl, rfl⟩
    go_wp2_with fail
    generalize (w.alloc (.cells #[.int .i64 0, .int .i64 0, .int .i64 0, .int .i64 0, .int .i64 0] 33)) = W at *
    have hne := World.new_ne W _ c0
    rw [Nat.add_zero] at c0
    have e0 : IntKind.i64.wrap (x0 : Int) = (x0 : Int) := IntWalk.i64_in _ (by omega)
    have e1 : IntKind.i64.wrap (x1 : Int) = (x1 : Int) := IntWalk.i64_in _ (by omega)
    have e2 : IntKind.i64.wrap (x2 : Int) = (x2 : Int) := IntWalk.i64_in _ (by omega)
    go_region_held3 (fun w' => w'.cell? ⟨g, o, none⟩ = some (.int .u8 x0) ∧ w'.cell? ⟨g, o + 1, none⟩ = some (.int .u8 x1) ∧ w'.cell? ⟨g, o + 2, none⟩ = some (.int .u8 x2))
      (first | with_reducible exact ⟨c0, c1, c2⟩ | go_keep)
      (first | (go_at_call 0; fail))
    clear e0 e1 e2 c0 c1 c2 hne
    have hx1 : Ext W (W.alloc (.cells #[.int .i64 x0, .int .i64 x1, .int .i64 x2, .int .i64 (pfld l 3), .int .i64 (pfld l 4)] 33)).drew := ((Ext.refl W).alloc _).drew
    have hlt0 : w.heap.size < W.heap.size := (Array.getElem?_eq_some_iff.1 HZ.out).1
    have hz1 := (hx1.block _ hlt0).trans HZ.out
    have hr1 : (W.alloc (.cells #[.int .i64 x0, .int .i64 x1, .int .i64 x2, .int .i64 (pfld l 3), .int .i64 (pfld l 4)] 33)).drew.heap[W.heap.size]? = some (.cells #[.int .i64 x0, .int .i64 x1, .int .i64 x2, .int .i64 (pfld l 3), .int .i64 (pfld l 4)] 33 (0, 0)) := heap_alloc_new W _
    have HZ1 := Lib.hid hz1
    have HR1 := Lib.hid hr1
    have HX1 := Lib.hid (HE.out.trans hx1)
    clear hx1 hlt0 hz1 hr1
    by_cases hm : mayB (x0 : Int) x1 x2 (pfld l 3) (pfld l 4) = true
    · have HM := Lib.hid hm
      have HV := Lib.hid (PV_both HL.out (by rw [HP0.out, HP1.out, HP2.out]; exact hm))
      clear hm
      go_wp2_with fail
      refine (rmay_any _ _ _ _ _ _).mono ?_
      rw [HM.out]
      rintro r w3 ⟨rfl, hx⟩
      have hb2 := (hx.block _ (Array.getElem?_eq_some_iff.1 HZ1.out).1).trans HZ1.out
      have hr2 := (hx.block _ (Array.getElem?_eq_some_iff.1 HR1.out).1).trans HR1.out
      have HE := Lib.hid (HX1.out.trans hx)
      clear hx
      obtain ⟨⟨c0, c1, c2, c3, c4⟩, f0, f1, f2, f3, f4⟩ := five_cells hb2
      obtain ⟨⟨d0, d1, d2, d3, d4⟩, _⟩ := five_cells hr2
      clear hb2 hr2
      go_wp2_with fail
      refine bodyPost_ret (v := .tuple #[.agg #[.int .i64 x0, .int .i64 x1, .int .i64 x2, .int .i64 (pfld l 3), .int .i64 (pfld l 4)], .int .i64 0]) ?_ rfl ⟨?_, ?_⟩
      · simp [results, Tryz.results140, go_sem, c0, c1, c2, c3, c4]
      · rw [pf_yes HV.out, pf_yes HV.out, pf_yes HV.out, pf_yes HV.out, pf_yes HV.out, pe_yes HV.out, HP0.out, HP1.out, HP2.out]
      · exact five_ext HE.out (Nat.le_refl _) _ _ _ _ _
    · have hm' : mayB (x0 : Int) x1 x2 (pfld l 3) (pfld l 4) = false := by simpa using hm
      have HM := Lib.hid hm'
      have HV := Lib.hid (PV_may (l := l) (by rw [HP0.out, HP1.out, HP2.out]; exact hm'))
      clear hm hm'
      go_wp2_with fail
      refine (rmay_any _ _ _ _ _ _).mono ?_
      rw [HM.out]
      rintro r w3 ⟨rfl, hx⟩
      have hb2 := (hx.block _ (Array.getElem?_eq_some_iff.1 HZ1.out).1).trans HZ1.out
      have HE := Lib.hid (HX1.out.trans hx)
      clear hx
      obtain ⟨⟨c0, c1, c2, c3, c4⟩, f0, f1, f2, f3, f4⟩ := five_cells hb2
      clear hb2
      go_wp2_with fail
      refine bodyPost_ret (v := .tuple #[.agg #[.int .i64 0, .int .i64 0, .int .i64 0, .int .i64 0, .int .i64 0], .int .i64 30]) ?_ rfl ⟨?_, ?_⟩
      · simp [results, Tryz.results140, go_sem, c0, c1, c2, c3, c4]
      · rw [pf_no HV.out, pf_no HV.out, pf_no HV.out, pf_no HV.out, pf_no HV.out, pe_no HV.out]; rfl
      · exact five_ext HE.out (Nat.le_refl _) _ _ _ _ _
  · have HV := Lib.hid (PV_len (l := l) (by rw [hb.len]; exact h15))
    have hne : ((n : Int) != (15 : Int)) = true := by rw [bne_iff_ne]; omega
    obtain ⟨⟨c0, c1, c2, c3, c4⟩, f0, f1, f2, f3, f4⟩ := five_cells hz
    clear hb hE hz h15
    go_enter Tryz.func140, Tryz.ntmps140
    go_wp2_with fail
    refine bodyPost_ret (v := .tuple #[.agg #[.int .i64 0, .int .i64 0, .int .i64 0, .int .i64 0, .int .i64 0], .int .i64 30]) ?_ rfl ⟨?_, ?_⟩
    · simp [results, Tryz.results140, go_sem, c0, c1, c2, c3, c4]
    · rw [pf_no HV.out, pf_no HV.out, pf_no HV.out, pf_no HV.out, pf_no HV.out, pe_no HV.out]; rfl
    · exact HE.out
end Go.Proofs.YtlikhmhomkiadaaGreatDoor

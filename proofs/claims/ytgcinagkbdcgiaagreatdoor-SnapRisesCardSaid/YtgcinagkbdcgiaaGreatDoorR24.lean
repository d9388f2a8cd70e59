/-
  The contract of snap's read: a chunk's bytes, or that it is hurt.
-/
import Derived.Test.YtgcinagkbdcgiaaGreatDoorR00
import Derived.Test.YtgcinagkbdcgiaaGreatDoorR23
import Derived.Deep.RegionHeld3
import Derived.Deep.DeepCutAuto
namespace Go.Proofs.YtgcinagkbdcgiaaGreatDoor
set_option maxRecDepth 100000
section
open Go Go.RowKit
theorem plcL_chk {m : DM} (hok : m.Ok) (p : Int) : m.plcL (firstS 5 p) 2 = m.kb p := by
  unfold DM.plcL DM.gotB DM.kb pair2
  rw [anyIn_succ, anyIn_succ, anyIn_zero, Bool.false_or]
  simp only [DM.gotL, List.nil_append, Int.natCast_zero, Int.add_zero, read_nilS hok, Int.natCast_one]
  by_cases h : (m.read (firstS 5 p)).2 = 0 <;> by_cases h1 : (m.read (firstS 5 p + 1)).2 = 0 <;> simp [h, h1]
theorem keepShelf {V W : World} {g d : Nat} {r inc : Int} {s : ShM} (k : Hid (Ext V.drew W)) (h : Hid (ShAt V g d r inc s)) : W.cell? ⟨g, 1, none⟩ = some (.pointer (some ⟨d, 0, none⟩)) := (h.out.ext ((Below.drew (Ext.refl V)).trans k.out)).cells.2.1
theorem okC_nil (r : Int) (s : ShM) (k : Nat) : okC r s k [] = false := by
  unfold okC
  rw [(stM_nil r 5 _).1]
  exact decide_eq_false (fun h => by omega)
theorem three_range {w : World} {g o : Nat} {x y z : Value} (h0 : w.cell? ⟨g, o, none⟩ = some x) (h1 : w.cell? ⟨g, o + 1, none⟩ = some y) (h2 : w.cell? ⟨g, o + 2, none⟩ = some z) : w.rangeAt g o [x, y, z] := fun j v hv => by
  match j, hv with
  | 0, hv => cases hv; exact h0
  | 1, hv => cases hv; exact h1
  | 2, hv => cases hv; exact h2
def ReadY (m : DM) (r : Int) (s : ShM) (k : Nat) (w : World) (e : Ending) (w' : World) : Prop := ∃ A N c, e = .returned (.tuple #[.slice A N c, .int .i64 (if m.chB r s k = true then 0 else 130)]) ∧ By w' A N c (m.chL r s k) ∧ (∀ p, A = some p → w.heap.size ≤ p.block) ∧ Ext w w'
theorem ReadY.no {m : DM} {r : Int} {s : ShM} {k : Nat} {w : World} (h : m.chB r s k = false) (w' : World) (hx : Ext w w') : ReadY m r s k w (.returned (.tuple #[.slice none 0 0, .int .i64 130])) w' :=
  ⟨none, 0, 0, by rw [if_neg (by rw [h]; simp)], by
    have e : m.chL r s k = [] := by
      unfold DM.chB at h
      unfold DM.chL bytC
      rw [if_neg (by rw [h]; simp)]
    rw [e]
    exact By.nil_ _, fun p hp => (by cases hp), hx⟩
set_option maxHeartbeats 6400000 in
theorem yread_of {w : World} {g d : Nat} {r inc : Int} {s : ShM} {F : Nat → Prop} {m : DM} (h : ShAt w g d r inc s) (hd : PDisk w d F m) (hL : LaidY w) (hct : s.ct ≤ 8) (har : s.ar ≤ 1) (k : Nat) (hk : k < s.ct) (hfew : m.waits.length ≤ 1000000) :
    Calls Tryz.prog 125 #[.pointer (some ⟨g, 0, none⟩), .int .i64 (k : Int)] w (ReadY m r s k w) := by
  obtain ⟨ix, ar, ct⟩ := s
  dsimp only at hct har hk
  obtain ⟨i0, hi, hz0, hz1, hz2⟩ := info_parts byte_info
  obtain ⟨p, hp⟩ : ∃ p : Nat, 8 * ar + k = p := ⟨_, rfl⟩
  have hp16 : p < 16 := by omega
  have hS := first5 hp16
  have hfb : (sC p : Int) ≤ 300 := by have := sC_lt hp16; omega
  have hplc := plcL_chk hd.ok (p : Int)
  rw [hS] at hplc
  have hchb : m.chB r ⟨ix, ar, ct⟩ k = okC r ⟨ix, ar, ct⟩ k (m.kb (p : Int)) := by unfold DM.chB; dsimp only; rw [hp]
  have hchl : m.chL r ⟨ix, ar, ct⟩ k = bytC r ⟨ix, ar, ct⟩ k (m.kb (p : Int)) := by unfold DM.chL; dsimp only; rw [hp]
  have hfail : ∀ j : Nat, j < 2 → (m.read ((sC p : Int) + (j : Int))).2 ≠ 0 → m.chB r ⟨ix, ar, ct⟩ k = false := fun j hj hne => by
    have : m.plcL (sC p : Int) 2 = [] := by
      unfold DM.plcL
      rw [if_pos (by unfold DM.gotB; exact anyIn_iff.2 ⟨_, by simpa using hne, by omega, by omega⟩)]
    rw [hchb, ← hplc, this, okC_nil]
  have hgood : m.gotB (sC p : Int) 2 = false → m.gotL (sC p : Int) 2 = m.kb (p : Int) := fun hh => by
    rw [← hplc]
    unfold DM.plcL
    rw [if_neg (by rw [hh]; simp)]
  have HFAIL := Lib.hid hfail
  have HGOOD := Lib.hid hgood
  have HCB := Lib.hid (And.intro hchb hchl)
  have HD := Lib.hid hd
  have H := Lib.hid h
  have HL := Lib.hid hL
  have HFW := Lib.hid hfew
  have HS := Lib.hid hS
  have HP := Lib.hid hp
  have NO : Hid (m.chB r ⟨ix, ar, ct⟩ k = false → ∀ w', Ext w w' → ReadY m r ⟨ix, ar, ct⟩ k w (.returned (.tuple #[.slice none 0 0, .int .i64 130])) w') := Lib.hid fun h w' hx => ReadY.no h w' hx
  have hpl := yplace_of ix ar ct k har (by omega) w
  rw [hp] at hpl
  have HPL := Lib.hid hpl
  obtain ⟨S, hSS⟩ : ∃ S : Int, (sC p : Int) = S := ⟨_, rfl⟩
  rw [hSS] at HFAIL HGOOD HS hfb
  have hS0 : 0 ≤ S := by rw [← hSS]; omega
  obtain ⟨c0, c1, c2, c3, c4, c5, c6⟩ := h.cells
  dsimp only at c4 c5 c6
  clear h hd hL hfew hfail hgood hchb hchl hplc hS hpl hp c0 c1 c2 c3
  go_enter Tryz.func125, Tryz.ntmps125
  go_wp2_with fail
  refine HPL.out.mono ?_
  rintro e w1 ⟨rfl, hx⟩
  have HX1 := Lib.hid hx
  clear hx c4 c5 c6
  go_wp2_with fail
  refine (wide_any 5 _ (HL.out.ext HX1.out).f.a.t).mono ?_
  rw [show wid 5 = 2 from rfl]
  rintro e w2 ⟨rfl, hx⟩
  have HG := Lib.hid (Gath.start w2)
  have HE0 : Hid (Ext w w2) := Lib.hid (HX1.out.trans hx)
  clear hx
  go_wp2_with fail
  go_loopw [7, 24] (fun v i wr => ∃ j : Nat, j ≤ 2 ∧ i = .int .i64 j ∧ Hid (Gath w2 wr v (m.gotL S j) j) ∧ Hid (m.gotB S j = false)) (fun _ i _ => 2 - (intOf i).toNat)
  case atStart => exact ⟨0, Nat.zero_le _, rfl, HG, Lib.hid rfl⟩
  case round =>
    obtain ⟨j, hj, rfl, HG, HLO⟩ := hrel
    obtain ⟨A, c, rfl, hby⟩ := HG.out.form
    clear hby
    by_cases hlt : j < 2
    · have hn := read_new HD.out.ok (S + (j : Int))
      have hm : (m.gotL S (j + 1)) = m.gotL S j ++ (m.read (S + (j : Int))).1 := rfl
      have HM := Lib.hid hm
      have HN := Lib.hid hn
      have hfew := HG.out.few
      have hlo : (m.read (S + (j : Int))).2 = 0 → m.gotB S (j + 1) = false := fun h0 => by
        have := anyIn_succ (fun s => decide ((m.read s).2 ≠ 0)) S j
        have h2 : anyIn (fun s => decide ((m.read s).2 ≠ 0)) S j = false := HLO.out
        unfold DM.gotB
        rw [this, h2]
        simp [h0]
      have hany := HFAIL.out j hlt
      have HLO2 := Lib.hid hlo
      have HANY := Lib.hid hany
      have hcell := (H.out.ext (HE0.out.trans HG.out.ext)).cells.2.1
      have HCL := Lib.hid (H.out.ext (HE0.out.trans HG.out.ext))
      have HXD : Hid (Ext w wr.drew) := Lib.hid (Below.drew (HE0.out.trans HG.out.ext))
      have HF1 := Lib.hid (first_any 5 (p : Int) wr.drew (HL.out.ext HXD.out).f.a.t)
      rw [HS.out] at HF1
      have HRD : Hid (∀ V, Hid (Ext wr.drew V) → Calls Tryz.prog 206 #[.pointer (some ⟨d, 0, none⟩), .int .i64 (IntKind.i64.wrap (S + (j : Int)))] V fun e w' => ∃ A n, e = .returned (.tuple #[.slice A n n, .int .i64 (m.read (S + (j : Int))).2]) ∧ New V.heap.size w' A n (m.read (S + (j : Int))).1 ∧ Ext V w') := Lib.hid fun V hV => by rw [wrap_i64 (by omega) (by omega)]; exact read_pd (HD.out.ext (HXD.out.trans hV.out)) _ HFW.out
      clear hm hn hlo hany
      generalize m.gotL S j = L at *
      generalize (m.read (S + (j : Int))).1 = L2 at *
      generalize (m.read (S + (j : Int))).2 = E2 at *
      go_wp2_with fail
      go_region_held3 (fun w' => w'.cell? ⟨g, 1, none⟩ = some (.pointer (some ⟨d, 0, none⟩)))
        (first | with_reducible exact hcell | exact keepShelf (by assumption) HCL | go_keep)
        (first
          | (go_at_call 52; ((with_reducible refine HF1.out.mono ?_); rintro e w4 ⟨rfl, hx⟩; have HXk := Lib.hid hx; clear hx))
          | (go_at_call 206; ((with_reducible refine (HRD.out _ HXk).mono ?_); rintro e w3 ⟨A2, n2, rfl, hnew, hx⟩; have HX3 : Hid (Ext wr.drew w3) := Lib.hid (HXk.out.trans hx); have HNEW := Lib.hid hnew; clear hx hnew)))
      obtain rfl : n2 = L2.length := HNEW.out.len.symm
      have HB := Lib.hid HNEW.out.by
      have HGd : Hid (Gath w2 wr.drew (.slice A L.length c) L j) := Lib.hid (HG.out.more (Below.drew (Ext.refl wr)))
      have HG := Lib.hid (HGd.out.more HX3.out)
      by_cases h0 : E2 = 0
      · subst h0
        have hl2 := HN.out.2
        have hsz := HG.out.ext.size
        go_wp2_with (at_builtin; refine wpList_append_by rfl _ _ 45 rfl w2.heap.size 5 i0 Tryz.underlying45 hi hz0 hz1 hz2 _ L.length (vb L) rfl HG.out.own A2 L2.length L2.length L2 rfl HB.out (by omega) hsz ?_)
        rintro v' w4 hown hgrow
        have HG := Lib.hid (HG.out.app hgrow hown HN.out.1 HN.out.2)
        clear hown hgrow
        go_wp2_with fail
        go_roundw
        case rel => exact ⟨j + 1, by omega, by go_num, by rw [HM.out]; exact HG, Lib.hid (HLO2.out trivial)⟩
        case measure => simp [intOf]; omega
      · have hne : (E2 != 0) = true := by simpa using h0
        have HNE := Lib.hid h0
        clear h0
        go_wp2_with fail
        refine bodyPost_ret (v := .tuple #[.slice none 0 0, .int .i64 130]) (by simp [results, Tryz.results125, go_sem]) rfl ?_
        exact NO.out (HANY.out HNE.out) _ (HE0.out.trans HG.out.ext)
    · obtain rfl : j = 2 := by omega
      have hcl := (H.out.ext (HE0.out.trans HG.out.ext)).cells.2.2.1
      obtain ⟨A2, cc2, e2, hby⟩ := HG.out.form
      injection e2 with e21 _ e23
      subst e21; subst e23
      have HBY := Lib.hid hby
      have hKB := HGOOD.out HLO.out
      obtain ⟨L, hLe⟩ : ∃ L, m.gotL S 2 = L := ⟨_, rfl⟩
      rw [hLe] at hKB HBY HG ⊢
      rw [← hKB] at HCB
      clear hby HFAIL HGOOD hKB
      have hlen : L.length ≤ 128 := by have := HG.out.few; omega
      have HML := Lib.hid (Nat.le_trans (mbl_len L r 5 (p : Int)) hlen)
      have HE : Hid (Ext w wr) := Lib.hid (HE0.out.trans HG.out.ext)
      have HMI : Hid (∀ V, Ext wr V → Calls Tryz.prog 203 #[.slice A L.length c, .int .i64 r, .int .i64 5, .int .i64 (p : Int)] V fun e w' => ∃ A' N, e = .returned (.tuple #[.int .u8 (stM L r 5 (p : Int)), .agg #[.int .i64 (mfl L r 5 (p : Int) 0), .int .i64 (mfl L r 5 (p : Int) 1), .int .i64 (mfl L r 5 (p : Int) 2), .int .i64 (mfl L r 5 (p : Int) 3), .int .i64 (mfl L r 5 (p : Int) 4)], .slice A' N N]) ∧ By w' A' N N (mbl L r 5 (p : Int)) ∧ Ext V w') := Lib.hid fun V hV => mine_any A L.length c L r 5 (p : Int) V (HL.out.ext (HE.out.trans hV)).f (HBY.out.ext hV)
      have hok : okC r ⟨ix, ar, ct⟩ k L = decide (stM L r 5 (p : Int) = 1 ∧ mfl L r 5 (p : Int) 3 = ix ∧ (paZ (mbl L r 5 (p : Int))).2.2 = 0 ∧ (paZ (mbl L r 5 (p : Int))).1 = ct ∧ fitsC k ct (paZ (mbl L r 5 (p : Int))).2.1.length = true) := by unfold okC; dsimp only; rw [HP.out]
      have hby' : bytC r ⟨ix, ar, ct⟩ k L = if okC r ⟨ix, ar, ct⟩ k L = true then (paZ (mbl L r 5 (p : Int))).2.1 else [] := by unfold bytC; dsimp only; rw [HP.out]
      rw [hby', hok] at HCB
      clear hok hby'
      have HZP := Lib.hid (fun (A : Option Addr) (n c : Nat) (V : World) (hv : Ext w V) (hb : By V A n c (mbl L r 5 (p : Int))) (hn : n ≤ 140737488355000) => zparse_own A n c (mbl L r 5 (p : Int)) V (HL.out.ext hv).f.a.o hb hn)
      clear hlen HE0 HG
      generalize stM L r 5 (p : Int) = st at *
      generalize mfl L r 5 (p : Int) = fl at *
      generalize mbl L r 5 (p : Int) = B at *
      go_wp2_with fail
      refine (HMI.out _ (Ext.refl wr)).mono ?_
      rintro e w3 ⟨A2, N2, rfl, hb, hx⟩
      have HX3 := Lib.hid (HE.out.trans hx)
      have HB := Lib.hid hb
      have hN := hb.len
      have hN : N2 ≤ 140737488355000 := by have := hb.len; have := HML.out; omega
      have HN2 := Lib.hid hN
      clear hb hx hN
      go_wp2_with fail
      have hE4 : Ext w3 (w3.alloc (.cells #[.int .i64 (fl 0 : Int), .int .i64 (fl 1 : Int), .int .i64 (fl 2 : Int), .int .i64 (fl 3 : Int), .int .i64 (fl 4 : Int)] 44)) := (Ext.refl w3).alloc _
      have hz := heap_alloc_new w3 (.cells #[.int .i64 (fl 0 : Int), .int .i64 (fl 1 : Int), .int .i64 (fl 2 : Int), .int .i64 (fl 3 : Int), .int .i64 (fl 4 : Int)] 44)
      have hlt4 : w3.heap.size < (w3.alloc (.cells #[.int .i64 (fl 0 : Int), .int .i64 (fl 1 : Int), .int .i64 (fl 2 : Int), .int .i64 (fl 3 : Int), .int .i64 (fl 4 : Int)] 44)).heap.size := (Array.getElem?_eq_some_iff.1 hz).1
      generalize (w3.alloc (.cells #[.int .i64 (fl 0 : Int), .int .i64 (fl 1 : Int), .int .i64 (fl 2 : Int), .int .i64 (fl 3 : Int), .int .i64 (fl 4 : Int)] 44)) = w4 at *
      obtain ⟨b, hb⟩ : ∃ b, w3.heap.size = b := ⟨_, rfl⟩
      rw [hb] at hz hlt4 ⊢
      have HX4 : Hid (Ext w w4) := Lib.hid (HX3.out.trans hE4)
      have HB4 := Lib.hid (HB.out.ext hE4)
      have HZ := Lib.hid (And.intro hz hlt4)
      clear hz hlt4 hE4 hb
      refine (HZP.out A2 N2 N2 w4 HX4.out HB4.out HN2.out).mono ?_
      rintro e w5 ⟨A4, N4, c4, rfl, hb5, hfr, hx⟩
      have HX5 : Hid (Ext w w5) := Lib.hid (HX4.out.trans hx)
      have HS0 : Hid (∀ V, Ext w5 V → (V.cell? ⟨b, 3, none⟩ = some (.int .i64 (fl 3 : Int)) ∧ V.cell? ⟨g, 4, none⟩ = some (.int .i64 (ix : Int)) ∧ V.cell? ⟨g, 5, none⟩ = some (.int .i64 (ar : Int)) ∧ V.cell? ⟨g, 6, none⟩ = some (.int .i64 (ct : Int)))) := Lib.hid fun V hV => by
        have hr : V.heap[b]? = some (.cells #[.int .i64 (fl 0 : Int), .int .i64 (fl 1 : Int), .int .i64 (fl 2 : Int), .int .i64 (fl 3 : Int), .int .i64 (fl 4 : Int)] 44 (0, 0)) := ((hx.trans hV).block _ HZ.out.2).trans HZ.out.1
        have hc := (H.out.ext (HX5.out.trans hV)).cells
        exact ⟨cell_of_row V b 3 _ _ _ hr, hc.2.2.2.2.1, hc.2.2.2.2.2.1, hc.2.2.2.2.2.2⟩
      have HFR : Hid (∀ q, A4 = some q → w.heap.size ≤ q.block) := Lib.hid fun q hq => Nat.le_trans HX4.out.size (hfr q hq)
      have HB5 := Lib.hid hb5
      have hl5 := hb5.len
      clear hx hfr hb5 HZP HMI HB HB4 HBY
      generalize (paZ B).1 = xs at *
      generalize (paZ B).2.1 = cs at *
      generalize (paZ B).2.2 = er at *
      obtain rfl : N4 = cs.length := hl5.symm
      have HMB : Hid (∀ V, Ext w5 V → Calls Tryz.prog 105 #[.agg #[.int .i64 (ix : Int), .int .i64 (ar : Int), .int .i64 (ct : Int)], .int .i64 (k : Int), .slice A4 cs.length c4] V fun e w' => e = .returned (.bool (fitsZ (k : Int) ct cs.length)) ∧ Ext V w') := Lib.hid fun V hV => ymay_of ix ar ct (Lib.hid hct).out (k : Int) A4 cs.length c4 cs V (HB5.out.ext hV)
      clear hl5
      by_cases q0 : st = 1
      rotate_left
      · have e0 : ((st : Int) != 1) = true := by simp; omega
        have HNO : Hid (m.chB r ⟨ix, ar, ct⟩ k = false) := Lib.hid (by rw [HCB.out.1]; exact decide_eq_false (fun hh => q0 hh.1))
        clear q0
        go_wp2_with fail
        refine wp_region_held_drew (S := fun w' => w'.cell? ⟨b, 3, none⟩ = some (.int .i64 (fl 3 : Int)) ∧ w'.cell? ⟨g, 4, none⟩ = some (.int .i64 (ix : Int)) ∧ w'.cell? ⟨g, 5, none⟩ = some (.int .i64 (ar : Int)) ∧ w'.cell? ⟨g, 6, none⟩ = some (.int .i64 (ct : Int))) (by kernel_rfl) (HS0.out _ (Below.drew (Ext.refl w5))) (fun hHeld => ?_)
        refine tj (i := 0) (oi := ⟨some 62, .move (.tmp 11), 5, "snap.go:247", #[], none⟩) rfl (by kernel_rfl) ?_
        try simp only [Act.put, sT, s0, s1]
        refine tj (i := 1) (oi := ⟨some 63, .binOp .neq 5 (.tmp 62) (.const (.int .u8 1)) 5, 4, "snap.go:247", #[⟨0, .data⟩], none⟩) rfl (by kernel_rfl) ?_
        try simp only [Act.put, sT, s0, s1]
        refine tj (i := 2) (oi := ⟨some 64, .move (.tmp 63), 4, "snap.go:247", #[⟨1, .data⟩], none⟩) rfl (by kernel_rfl) ?_
        try simp only [Act.put, sT, s0, s1]
        refine tk (i := 3) (oi := ⟨some 65, .fieldAddr 44 (.tmp 12) 3, 0, "snap.go:247", #[⟨2, .guard⟩], some (2, false)⟩) (v := undef) rfl (by kernel_rfl) (Or.inr ⟨by rfl, rfl⟩) ?_
        try simp only [Act.put, sT, s0, s1]
        refine tk (i := 4) (oi := ⟨some 66, .load 3 (.tmp 65), 3, "snap.go:247", #[⟨3, .data⟩, ⟨2, .guard⟩], some (2, false)⟩) (v := undef) rfl (by kernel_rfl) (Or.inr ⟨by rfl, rfl⟩) ?_
        try simp only [Act.put, sT, s0, s1]
        refine tk (i := 5) (oi := ⟨some 67, .move (.tmp 0), 76, "snap.go:247", #[⟨2, .guard⟩], some (2, false)⟩) (v := undef) rfl (by kernel_rfl) (Or.inr ⟨by rfl, rfl⟩) ?_
        try simp only [Act.put, sT, s0, s1]
        refine tk (i := 6) (oi := ⟨some 68, .nilCheck (.tmp 67), 0, "snap.go:247", #[⟨5, .data⟩, ⟨2, .guard⟩], some (2, false)⟩) (v := undef) rfl (by kernel_rfl) (Or.inr ⟨by rfl, rfl⟩) ?_
        try simp only [Act.put, sT, s0, s1]
        refine tk (i := 7) (oi := ⟨some 69, .fieldAddr 163 (.tmp 68) 4, 0, "snap.go:247", #[⟨6, .data⟩, ⟨2, .guard⟩], some (2, false)⟩) (v := undef) rfl (by kernel_rfl) (Or.inr ⟨by rfl, rfl⟩) ?_
        try simp only [Act.put, sT, s0, s1]
        refine tk (i := 8) (oi := ⟨some 70, .fieldAddr 158 (.tmp 69) 0, 0, "snap.go:247", #[⟨7, .data⟩, ⟨2, .guard⟩], some (2, false)⟩) (v := undef) rfl (by kernel_rfl) (Or.inr ⟨by rfl, rfl⟩) ?_
        try simp only [Act.put, sT, s0, s1]
        refine tk (i := 9) (oi := ⟨some 71, .load 3 (.tmp 70), 3, "snap.go:247", #[⟨8, .data⟩, ⟨2, .guard⟩], some (2, false)⟩) (v := undef) rfl (by kernel_rfl) (Or.inr ⟨by rfl, rfl⟩) ?_
        try simp only [Act.put, sT, s0, s1]
        refine tk (i := 10) (oi := ⟨some 72, .binOp .neq 3 (.tmp 66) (.tmp 71) 3, 4, "snap.go:247", #[⟨4, .data⟩, ⟨9, .data⟩, ⟨2, .guard⟩], some (2, false)⟩) (v := undef) rfl (by kernel_rfl) (Or.inr ⟨by rfl, rfl⟩) ?_
        try simp only [Act.put, sT, s0, s1]
        refine tj (i := 11) (oi := ⟨some 73, .pick (.tmp 64) (.const (.bool true)) (.tmp 72), 4, "snap.go:247", #[⟨2, .data⟩, ⟨10, .data⟩], none⟩) rfl (by kernel_rfl) ?_
        try simp only [Act.put, sT, s0, s1]
        refine tj (i := 12) (oi := ⟨some 74, .move (.tmp 73), 4, "snap.go:247", #[⟨11, .data⟩, ⟨2, .chain⟩], none⟩) rfl (by kernel_rfl) ?_
        try simp only [Act.put, sT, s0, s1]
        refine tk (i := 13) (oi := ⟨some 75, .move (.tmp 16), 25, "snap.go:247", #[⟨12, .guard⟩], some (12, false)⟩) (v := undef) rfl (by kernel_rfl) (Or.inr ⟨by rfl, rfl⟩) ?_
        try simp only [Act.put, sT, s0, s1]
        refine tk (i := 14) (oi := ⟨some 76, .binOp .neq 25 (.tmp 75) (.const (.int .i64 0)) 25, 4, "snap.go:247", #[⟨13, .data⟩, ⟨12, .guard⟩], some (12, false)⟩) (v := undef) rfl (by kernel_rfl) (Or.inr ⟨by rfl, rfl⟩) ?_
        try simp only [Act.put, sT, s0, s1]
        refine tj (i := 15) (oi := ⟨some 77, .pick (.tmp 74) (.const (.bool true)) (.tmp 76), 4, "snap.go:247", #[⟨12, .data⟩, ⟨14, .data⟩], none⟩) rfl (by kernel_rfl) ?_
        try simp only [Act.put, sT, s0, s1]
        refine tj (i := 16) (oi := ⟨some 78, .move (.tmp 77), 4, "snap.go:247", #[⟨15, .data⟩, ⟨12, .chain⟩], none⟩) rfl (by kernel_rfl) ?_
        try simp only [Act.put, sT, s0, s1]
        refine tk (i := 17) (oi := ⟨some 79, .move (.tmp 14), 3, "snap.go:247", #[⟨16, .guard⟩], some (16, false)⟩) (v := undef) rfl (by kernel_rfl) (Or.inr ⟨by rfl, rfl⟩) ?_
        try simp only [Act.put, sT, s0, s1]
        refine tk (i := 18) (oi := ⟨some 80, .move (.tmp 0), 76, "snap.go:247", #[⟨16, .guard⟩], some (16, false)⟩) (v := undef) rfl (by kernel_rfl) (Or.inr ⟨by rfl, rfl⟩) ?_
        try simp only [Act.put, sT, s0, s1]
        refine tk (i := 19) (oi := ⟨some 81, .nilCheck (.tmp 80), 0, "snap.go:247", #[⟨18, .data⟩, ⟨16, .guard⟩], some (16, false)⟩) (v := undef) rfl (by kernel_rfl) (Or.inr ⟨by rfl, rfl⟩) ?_
        try simp only [Act.put, sT, s0, s1]
        refine tk (i := 20) (oi := ⟨some 82, .fieldAddr 163 (.tmp 81) 4, 0, "snap.go:247", #[⟨19, .data⟩, ⟨16, .guard⟩], some (16, false)⟩) (v := undef) rfl (by kernel_rfl) (Or.inr ⟨by rfl, rfl⟩) ?_
        try simp only [Act.put, sT, s0, s1]
        refine tk (i := 21) (oi := ⟨some 83, .fieldAddr 158 (.tmp 82) 2, 0, "snap.go:247", #[⟨20, .data⟩, ⟨16, .guard⟩], some (16, false)⟩) (v := undef) rfl (by kernel_rfl) (Or.inr ⟨by rfl, rfl⟩) ?_
        try simp only [Act.put, sT, s0, s1]
        refine tk (i := 22) (oi := ⟨some 84, .load 3 (.tmp 83), 3, "snap.go:247", #[⟨21, .data⟩, ⟨16, .guard⟩], some (16, false)⟩) (v := undef) rfl (by kernel_rfl) (Or.inr ⟨by rfl, rfl⟩) ?_
        try simp only [Act.put, sT, s0, s1]
        refine tk (i := 23) (oi := ⟨some 85, .binOp .neq 3 (.tmp 79) (.tmp 84) 3, 4, "snap.go:247", #[⟨17, .data⟩, ⟨22, .data⟩, ⟨16, .guard⟩], some (16, false)⟩) (v := undef) rfl (by kernel_rfl) (Or.inr ⟨by rfl, rfl⟩) ?_
        try simp only [Act.put, sT, s0, s1]
        refine tj (i := 24) (oi := ⟨some 86, .pick (.tmp 78) (.const (.bool true)) (.tmp 85), 4, "snap.go:247", #[⟨16, .data⟩, ⟨23, .data⟩], none⟩) rfl (by kernel_rfl) ?_
        try simp only [Act.put, sT, s0, s1]
        refine tj (i := 25) (oi := ⟨some 87, .move (.tmp 86), 4, "snap.go:247", #[⟨24, .data⟩, ⟨16, .chain⟩], none⟩) rfl (by kernel_rfl) ?_
        try simp only [Act.put, sT, s0, s1]
        refine tk (i := 26) (oi := ⟨some 88, .move (.tmp 0), 76, "snap.go:247", #[⟨25, .guard⟩], some (25, false)⟩) (v := undef) rfl (by kernel_rfl) (Or.inr ⟨by rfl, rfl⟩) ?_
        try simp only [Act.put, sT, s0, s1]
        refine tk (i := 27) (oi := ⟨some 89, .nilCheck (.tmp 88), 0, "snap.go:247", #[⟨26, .data⟩, ⟨25, .guard⟩], some (25, false)⟩) (v := undef) rfl (by kernel_rfl) (Or.inr ⟨by rfl, rfl⟩) ?_
        try simp only [Act.put, sT, s0, s1]
        refine tk (i := 28) (oi := ⟨some 90, .fieldAddr 163 (.tmp 89) 4, 0, "snap.go:247", #[⟨27, .data⟩, ⟨25, .guard⟩], some (25, false)⟩) (v := undef) rfl (by kernel_rfl) (Or.inr ⟨by rfl, rfl⟩) ?_
        try simp only [Act.put, sT, s0, s1]
        refine tk (i := 29) (oi := ⟨some 91, .load 158 (.tmp 90), 158, "snap.go:247", #[⟨28, .data⟩, ⟨25, .guard⟩], some (25, false)⟩) (v := undef) rfl (by kernel_rfl) (Or.inr ⟨by rfl, rfl⟩) ?_
        try simp only [Act.put, sT, s0, s1]
        refine tk (i := 30) (oi := ⟨some 92, .move (.tmp 1), 3, "snap.go:247", #[⟨25, .guard⟩], some (25, false)⟩) (v := undef) rfl (by kernel_rfl) (Or.inr ⟨by rfl, rfl⟩) ?_
        try simp only [Act.put, sT, s0, s1]
        refine tk (i := 31) (oi := ⟨some 93, .move (.tmp 15), 45, "snap.go:247", #[⟨25, .guard⟩], some (25, false)⟩) (v := undef) rfl (by kernel_rfl) (Or.inr ⟨by rfl, rfl⟩) ?_
        try simp only [Act.put, sT, s0, s1]
        refine tk (i := 32) (oi := ⟨some 94, .call { callee := .value (.func 105), args := #[.tmp 91, .tmp 92, .tmp 93], argTypes := #[158, 3, 45] }, 4, "snap.go:247", #[⟨29, .data⟩, ⟨30, .data⟩, ⟨31, .data⟩, ⟨25, .chain⟩, ⟨25, .guard⟩], some (25, false)⟩) (v := undef) rfl (by kernel_rfl) (Or.inr ⟨by rfl, rfl⟩) ?_
        try simp only [Act.put, sT, s0, s1]
        refine tk (i := 33) (oi := ⟨some 95, .unOp .not 4 (.tmp 94), 4, "snap.go:247", #[⟨32, .data⟩, ⟨25, .guard⟩], some (25, false)⟩) (v := undef) rfl (by kernel_rfl) (Or.inr ⟨by rfl, rfl⟩) ?_
        try simp only [Act.put, sT, s0, s1]
        refine tj (i := 34) (oi := ⟨some 96, .pick (.tmp 87) (.const (.bool true)) (.tmp 95), 4, "snap.go:247", #[⟨25, .data⟩, ⟨33, .data⟩], none⟩) rfl (by kernel_rfl) ?_
        try simp only [Act.put, sT, s0, s1]
        refine wpAnyH_done (by kernel_rfl) ?_ _
        clear hHeld
        go_wp2_with fail
        refine bodyPost_ret (v := .tuple #[.slice none 0 0, .int .i64 130]) (by simp [results, Tryz.results125, go_sem]) rfl ?_
        exact NO.out HNO.out _ (Below.drew HX5.out)
      by_cases q1 : fl 3 = ix
      rotate_left
      · have e0 : ((st : Int) != 1) = false := by simp [q0]
        have e1 : ((fl 3 : Int) != (ix : Int)) = true := by simp; omega
        have HNO : Hid (m.chB r ⟨ix, ar, ct⟩ k = false) := Lib.hid (by rw [HCB.out.1]; exact decide_eq_false (fun hh => q1 hh.2.1))
        clear q0 q1
        go_wp2_with fail
        refine wp_region_held_drew (S := fun w' => w'.cell? ⟨b, 3, none⟩ = some (.int .i64 (fl 3 : Int)) ∧ w'.cell? ⟨g, 4, none⟩ = some (.int .i64 (ix : Int)) ∧ w'.cell? ⟨g, 5, none⟩ = some (.int .i64 (ar : Int)) ∧ w'.cell? ⟨g, 6, none⟩ = some (.int .i64 (ct : Int))) (by kernel_rfl) (HS0.out _ (Below.drew (Ext.refl w5))) (fun hHeld => ?_)
        refine tj (i := 0) (oi := ⟨some 62, .move (.tmp 11), 5, "snap.go:247", #[], none⟩) rfl (by kernel_rfl) ?_
        try simp only [Act.put, sT, s0, s1]
        refine tj (i := 1) (oi := ⟨some 63, .binOp .neq 5 (.tmp 62) (.const (.int .u8 1)) 5, 4, "snap.go:247", #[⟨0, .data⟩], none⟩) rfl (by kernel_rfl) ?_
        try simp only [Act.put, sT, s0, s1]
        refine tj (i := 2) (oi := ⟨some 64, .move (.tmp 63), 4, "snap.go:247", #[⟨1, .data⟩], none⟩) rfl (by kernel_rfl) ?_
        try simp only [Act.put, sT, s0, s1]
        refine tj (i := 3) (oi := ⟨some 65, .fieldAddr 44 (.tmp 12) 3, 0, "snap.go:247", #[⟨2, .guard⟩], some (2, false)⟩) rfl (by kernel_rfl) ?_
        try simp only [Act.put, sT, s0, s1]
        refine tj (i := 4) (oi := ⟨some 66, .load 3 (.tmp 65), 3, "snap.go:247", #[⟨3, .data⟩, ⟨2, .guard⟩], some (2, false)⟩) rfl (by kernel_rfl) ?_
        try simp only [Act.put, sT, s0, s1]
        refine tj (i := 5) (oi := ⟨some 67, .move (.tmp 0), 76, "snap.go:247", #[⟨2, .guard⟩], some (2, false)⟩) rfl (by kernel_rfl) ?_
        try simp only [Act.put, sT, s0, s1]
        refine tj (i := 6) (oi := ⟨some 68, .nilCheck (.tmp 67), 0, "snap.go:247", #[⟨5, .data⟩, ⟨2, .guard⟩], some (2, false)⟩) rfl (by kernel_rfl) ?_
        try simp only [Act.put, sT, s0, s1]
        refine tj (i := 7) (oi := ⟨some 69, .fieldAddr 163 (.tmp 68) 4, 0, "snap.go:247", #[⟨6, .data⟩, ⟨2, .guard⟩], some (2, false)⟩) rfl (by kernel_rfl) ?_
        try simp only [Act.put, sT, s0, s1]
        refine tj (i := 8) (oi := ⟨some 70, .fieldAddr 158 (.tmp 69) 0, 0, "snap.go:247", #[⟨7, .data⟩, ⟨2, .guard⟩], some (2, false)⟩) rfl (by kernel_rfl) ?_
        try simp only [Act.put, sT, s0, s1]
        refine tj (i := 9) (oi := ⟨some 71, .load 3 (.tmp 70), 3, "snap.go:247", #[⟨8, .data⟩, ⟨2, .guard⟩], some (2, false)⟩) rfl (by kernel_rfl) ?_
        try simp only [Act.put, sT, s0, s1]
        refine tj (i := 10) (oi := ⟨some 72, .binOp .neq 3 (.tmp 66) (.tmp 71) 3, 4, "snap.go:247", #[⟨4, .data⟩, ⟨9, .data⟩, ⟨2, .guard⟩], some (2, false)⟩) rfl (by kernel_rfl) ?_
        try simp only [Act.put, sT, s0, s1]
        refine tj (i := 11) (oi := ⟨some 73, .pick (.tmp 64) (.const (.bool true)) (.tmp 72), 4, "snap.go:247", #[⟨2, .data⟩, ⟨10, .data⟩], none⟩) rfl (by kernel_rfl) ?_
        try simp only [Act.put, sT, s0, s1]
        refine tj (i := 12) (oi := ⟨some 74, .move (.tmp 73), 4, "snap.go:247", #[⟨11, .data⟩, ⟨2, .chain⟩], none⟩) rfl (by kernel_rfl) ?_
        try simp only [Act.put, sT, s0, s1]
        refine tk (i := 13) (oi := ⟨some 75, .move (.tmp 16), 25, "snap.go:247", #[⟨12, .guard⟩], some (12, false)⟩) (v := undef) rfl (by kernel_rfl) (Or.inr ⟨by rfl, rfl⟩) ?_
        try simp only [Act.put, sT, s0, s1]
        refine tk (i := 14) (oi := ⟨some 76, .binOp .neq 25 (.tmp 75) (.const (.int .i64 0)) 25, 4, "snap.go:247", #[⟨13, .data⟩, ⟨12, .guard⟩], some (12, false)⟩) (v := undef) rfl (by kernel_rfl) (Or.inr ⟨by rfl, rfl⟩) ?_
        try simp only [Act.put, sT, s0, s1]
        refine tj (i := 15) (oi := ⟨some 77, .pick (.tmp 74) (.const (.bool true)) (.tmp 76), 4, "snap.go:247", #[⟨12, .data⟩, ⟨14, .data⟩], none⟩) rfl (by kernel_rfl) ?_
        try simp only [Act.put, sT, s0, s1]
        refine tj (i := 16) (oi := ⟨some 78, .move (.tmp 77), 4, "snap.go:247", #[⟨15, .data⟩, ⟨12, .chain⟩], none⟩) rfl (by kernel_rfl) ?_
        try simp only [Act.put, sT, s0, s1]
        refine tk (i := 17) (oi := ⟨some 79, .move (.tmp 14), 3, "snap.go:247", #[⟨16, .guard⟩], some (16, false)⟩) (v := undef) rfl (by kernel_rfl) (Or.inr ⟨by rfl, rfl⟩) ?_
        try simp only [Act.put, sT, s0, s1]
        refine tk (i := 18) (oi := ⟨some 80, .move (.tmp 0), 76, "snap.go:247", #[⟨16, .guard⟩], some (16, false)⟩) (v := undef) rfl (by kernel_rfl) (Or.inr ⟨by rfl, rfl⟩) ?_
        try simp only [Act.put, sT, s0, s1]
        refine tk (i := 19) (oi := ⟨some 81, .nilCheck (.tmp 80), 0, "snap.go:247", #[⟨18, .data⟩, ⟨16, .guard⟩], some (16, false)⟩) (v := undef) rfl (by kernel_rfl) (Or.inr ⟨by rfl, rfl⟩) ?_
        try simp only [Act.put, sT, s0, s1]
        refine tk (i := 20) (oi := ⟨some 82, .fieldAddr 163 (.tmp 81) 4, 0, "snap.go:247", #[⟨19, .data⟩, ⟨16, .guard⟩], some (16, false)⟩) (v := undef) rfl (by kernel_rfl) (Or.inr ⟨by rfl, rfl⟩) ?_
        try simp only [Act.put, sT, s0, s1]
        refine tk (i := 21) (oi := ⟨some 83, .fieldAddr 158 (.tmp 82) 2, 0, "snap.go:247", #[⟨20, .data⟩, ⟨16, .guard⟩], some (16, false)⟩) (v := undef) rfl (by kernel_rfl) (Or.inr ⟨by rfl, rfl⟩) ?_
        try simp only [Act.put, sT, s0, s1]
        refine tk (i := 22) (oi := ⟨some 84, .load 3 (.tmp 83), 3, "snap.go:247", #[⟨21, .data⟩, ⟨16, .guard⟩], some (16, false)⟩) (v := undef) rfl (by kernel_rfl) (Or.inr ⟨by rfl, rfl⟩) ?_
        try simp only [Act.put, sT, s0, s1]
        refine tk (i := 23) (oi := ⟨some 85, .binOp .neq 3 (.tmp 79) (.tmp 84) 3, 4, "snap.go:247", #[⟨17, .data⟩, ⟨22, .data⟩, ⟨16, .guard⟩], some (16, false)⟩) (v := undef) rfl (by kernel_rfl) (Or.inr ⟨by rfl, rfl⟩) ?_
        try simp only [Act.put, sT, s0, s1]
        refine tj (i := 24) (oi := ⟨some 86, .pick (.tmp 78) (.const (.bool true)) (.tmp 85), 4, "snap.go:247", #[⟨16, .data⟩, ⟨23, .data⟩], none⟩) rfl (by kernel_rfl) ?_
        try simp only [Act.put, sT, s0, s1]
        refine tj (i := 25) (oi := ⟨some 87, .move (.tmp 86), 4, "snap.go:247", #[⟨24, .data⟩, ⟨16, .chain⟩], none⟩) rfl (by kernel_rfl) ?_
        try simp only [Act.put, sT, s0, s1]
        refine tk (i := 26) (oi := ⟨some 88, .move (.tmp 0), 76, "snap.go:247", #[⟨25, .guard⟩], some (25, false)⟩) (v := undef) rfl (by kernel_rfl) (Or.inr ⟨by rfl, rfl⟩) ?_
        try simp only [Act.put, sT, s0, s1]
        refine tk (i := 27) (oi := ⟨some 89, .nilCheck (.tmp 88), 0, "snap.go:247", #[⟨26, .data⟩, ⟨25, .guard⟩], some (25, false)⟩) (v := undef) rfl (by kernel_rfl) (Or.inr ⟨by rfl, rfl⟩) ?_
        try simp only [Act.put, sT, s0, s1]
        refine tk (i := 28) (oi := ⟨some 90, .fieldAddr 163 (.tmp 89) 4, 0, "snap.go:247", #[⟨27, .data⟩, ⟨25, .guard⟩], some (25, false)⟩) (v := undef) rfl (by kernel_rfl) (Or.inr ⟨by rfl, rfl⟩) ?_
        try simp only [Act.put, sT, s0, s1]
        refine tk (i := 29) (oi := ⟨some 91, .load 158 (.tmp 90), 158, "snap.go:247", #[⟨28, .data⟩, ⟨25, .guard⟩], some (25, false)⟩) (v := undef) rfl (by kernel_rfl) (Or.inr ⟨by rfl, rfl⟩) ?_
        try simp only [Act.put, sT, s0, s1]
        refine tk (i := 30) (oi := ⟨some 92, .move (.tmp 1), 3, "snap.go:247", #[⟨25, .guard⟩], some (25, false)⟩) (v := undef) rfl (by kernel_rfl) (Or.inr ⟨by rfl, rfl⟩) ?_
        try simp only [Act.put, sT, s0, s1]
        refine tk (i := 31) (oi := ⟨some 93, .move (.tmp 15), 45, "snap.go:247", #[⟨25, .guard⟩], some (25, false)⟩) (v := undef) rfl (by kernel_rfl) (Or.inr ⟨by rfl, rfl⟩) ?_
        try simp only [Act.put, sT, s0, s1]
        refine tk (i := 32) (oi := ⟨some 94, .call { callee := .value (.func 105), args := #[.tmp 91, .tmp 92, .tmp 93], argTypes := #[158, 3, 45] }, 4, "snap.go:247", #[⟨29, .data⟩, ⟨30, .data⟩, ⟨31, .data⟩, ⟨25, .chain⟩, ⟨25, .guard⟩], some (25, false)⟩) (v := undef) rfl (by kernel_rfl) (Or.inr ⟨by rfl, rfl⟩) ?_
        try simp only [Act.put, sT, s0, s1]
        refine tk (i := 33) (oi := ⟨some 95, .unOp .not 4 (.tmp 94), 4, "snap.go:247", #[⟨32, .data⟩, ⟨25, .guard⟩], some (25, false)⟩) (v := undef) rfl (by kernel_rfl) (Or.inr ⟨by rfl, rfl⟩) ?_
        try simp only [Act.put, sT, s0, s1]
        refine tj (i := 34) (oi := ⟨some 96, .pick (.tmp 87) (.const (.bool true)) (.tmp 95), 4, "snap.go:247", #[⟨25, .data⟩, ⟨33, .data⟩], none⟩) rfl (by kernel_rfl) ?_
        try simp only [Act.put, sT, s0, s1]
        refine wpAnyH_done (by kernel_rfl) ?_ _
        clear hHeld
        go_wp2_with fail
        refine bodyPost_ret (v := .tuple #[.slice none 0 0, .int .i64 130]) (by simp [results, Tryz.results125, go_sem]) rfl ?_
        exact NO.out HNO.out _ (Below.drew HX5.out)
      by_cases q2 : er = 0
      rotate_left
      · have e0 : ((st : Int) != 1) = false := by simp [q0]
        have e1 : ((fl 3 : Int) != (ix : Int)) = false := by simp [q1]
        have e2 : (er != 0) = true := by simp; omega
        have HNO : Hid (m.chB r ⟨ix, ar, ct⟩ k = false) := Lib.hid (by rw [HCB.out.1]; exact decide_eq_false (fun hh => q2 hh.2.2.1))
        clear q0 q1 q2
        go_wp2_with fail
        refine wp_region_held_drew (S := fun w' => w'.cell? ⟨b, 3, none⟩ = some (.int .i64 (fl 3 : Int)) ∧ w'.cell? ⟨g, 4, none⟩ = some (.int .i64 (ix : Int)) ∧ w'.cell? ⟨g, 5, none⟩ = some (.int .i64 (ar : Int)) ∧ w'.cell? ⟨g, 6, none⟩ = some (.int .i64 (ct : Int))) (by kernel_rfl) (HS0.out _ (Below.drew (Ext.refl w5))) (fun hHeld => ?_)
        refine tj (i := 0) (oi := ⟨some 62, .move (.tmp 11), 5, "snap.go:247", #[], none⟩) rfl (by kernel_rfl) ?_
        try simp only [Act.put, sT, s0, s1]
        refine tj (i := 1) (oi := ⟨some 63, .binOp .neq 5 (.tmp 62) (.const (.int .u8 1)) 5, 4, "snap.go:247", #[⟨0, .data⟩], none⟩) rfl (by kernel_rfl) ?_
        try simp only [Act.put, sT, s0, s1]
        refine tj (i := 2) (oi := ⟨some 64, .move (.tmp 63), 4, "snap.go:247", #[⟨1, .data⟩], none⟩) rfl (by kernel_rfl) ?_
        try simp only [Act.put, sT, s0, s1]
        refine tj (i := 3) (oi := ⟨some 65, .fieldAddr 44 (.tmp 12) 3, 0, "snap.go:247", #[⟨2, .guard⟩], some (2, false)⟩) rfl (by kernel_rfl) ?_
        try simp only [Act.put, sT, s0, s1]
        refine tj (i := 4) (oi := ⟨some 66, .load 3 (.tmp 65), 3, "snap.go:247", #[⟨3, .data⟩, ⟨2, .guard⟩], some (2, false)⟩) rfl (by kernel_rfl) ?_
        try simp only [Act.put, sT, s0, s1]
        refine tj (i := 5) (oi := ⟨some 67, .move (.tmp 0), 76, "snap.go:247", #[⟨2, .guard⟩], some (2, false)⟩) rfl (by kernel_rfl) ?_
        try simp only [Act.put, sT, s0, s1]
        refine tj (i := 6) (oi := ⟨some 68, .nilCheck (.tmp 67), 0, "snap.go:247", #[⟨5, .data⟩, ⟨2, .guard⟩], some (2, false)⟩) rfl (by kernel_rfl) ?_
        try simp only [Act.put, sT, s0, s1]
        refine tj (i := 7) (oi := ⟨some 69, .fieldAddr 163 (.tmp 68) 4, 0, "snap.go:247", #[⟨6, .data⟩, ⟨2, .guard⟩], some (2, false)⟩) rfl (by kernel_rfl) ?_
        try simp only [Act.put, sT, s0, s1]
        refine tj (i := 8) (oi := ⟨some 70, .fieldAddr 158 (.tmp 69) 0, 0, "snap.go:247", #[⟨7, .data⟩, ⟨2, .guard⟩], some (2, false)⟩) rfl (by kernel_rfl) ?_
        try simp only [Act.put, sT, s0, s1]
        refine tj (i := 9) (oi := ⟨some 71, .load 3 (.tmp 70), 3, "snap.go:247", #[⟨8, .data⟩, ⟨2, .guard⟩], some (2, false)⟩) rfl (by kernel_rfl) ?_
        try simp only [Act.put, sT, s0, s1]
        refine tj (i := 10) (oi := ⟨some 72, .binOp .neq 3 (.tmp 66) (.tmp 71) 3, 4, "snap.go:247", #[⟨4, .data⟩, ⟨9, .data⟩, ⟨2, .guard⟩], some (2, false)⟩) rfl (by kernel_rfl) ?_
        try simp only [Act.put, sT, s0, s1]
        refine tj (i := 11) (oi := ⟨some 73, .pick (.tmp 64) (.const (.bool true)) (.tmp 72), 4, "snap.go:247", #[⟨2, .data⟩, ⟨10, .data⟩], none⟩) rfl (by kernel_rfl) ?_
        try simp only [Act.put, sT, s0, s1]
        refine tj (i := 12) (oi := ⟨some 74, .move (.tmp 73), 4, "snap.go:247", #[⟨11, .data⟩, ⟨2, .chain⟩], none⟩) rfl (by kernel_rfl) ?_
        try simp only [Act.put, sT, s0, s1]
        refine tj (i := 13) (oi := ⟨some 75, .move (.tmp 16), 25, "snap.go:247", #[⟨12, .guard⟩], some (12, false)⟩) rfl (by kernel_rfl) ?_
        try simp only [Act.put, sT, s0, s1]
        refine tj (i := 14) (oi := ⟨some 76, .binOp .neq 25 (.tmp 75) (.const (.int .i64 0)) 25, 4, "snap.go:247", #[⟨13, .data⟩, ⟨12, .guard⟩], some (12, false)⟩) rfl (by kernel_rfl) ?_
        try simp only [Act.put, sT, s0, s1]
        refine tj (i := 15) (oi := ⟨some 77, .pick (.tmp 74) (.const (.bool true)) (.tmp 76), 4, "snap.go:247", #[⟨12, .data⟩, ⟨14, .data⟩], none⟩) rfl (by kernel_rfl) ?_
        try simp only [Act.put, sT, s0, s1]
        refine tj (i := 16) (oi := ⟨some 78, .move (.tmp 77), 4, "snap.go:247", #[⟨15, .data⟩, ⟨12, .chain⟩], none⟩) rfl (by kernel_rfl) ?_
        try simp only [Act.put, sT, s0, s1]
        refine tk (i := 17) (oi := ⟨some 79, .move (.tmp 14), 3, "snap.go:247", #[⟨16, .guard⟩], some (16, false)⟩) (v := undef) rfl (by kernel_rfl) (Or.inr ⟨by rfl, rfl⟩) ?_
        try simp only [Act.put, sT, s0, s1]
        refine tk (i := 18) (oi := ⟨some 80, .move (.tmp 0), 76, "snap.go:247", #[⟨16, .guard⟩], some (16, false)⟩) (v := undef) rfl (by kernel_rfl) (Or.inr ⟨by rfl, rfl⟩) ?_
        try simp only [Act.put, sT, s0, s1]
        refine tk (i := 19) (oi := ⟨some 81, .nilCheck (.tmp 80), 0, "snap.go:247", #[⟨18, .data⟩, ⟨16, .guard⟩], some (16, false)⟩) (v := undef) rfl (by kernel_rfl) (Or.inr ⟨by rfl, rfl⟩) ?_
        try simp only [Act.put, sT, s0, s1]
        refine tk (i := 20) (oi := ⟨some 82, .fieldAddr 163 (.tmp 81) 4, 0, "snap.go:247", #[⟨19, .data⟩, ⟨16, .guard⟩], some (16, false)⟩) (v := undef) rfl (by kernel_rfl) (Or.inr ⟨by rfl, rfl⟩) ?_
        try simp only [Act.put, sT, s0, s1]
        refine tk (i := 21) (oi := ⟨some 83, .fieldAddr 158 (.tmp 82) 2, 0, "snap.go:247", #[⟨20, .data⟩, ⟨16, .guard⟩], some (16, false)⟩) (v := undef) rfl (by kernel_rfl) (Or.inr ⟨by rfl, rfl⟩) ?_
        try simp only [Act.put, sT, s0, s1]
        refine tk (i := 22) (oi := ⟨some 84, .load 3 (.tmp 83), 3, "snap.go:247", #[⟨21, .data⟩, ⟨16, .guard⟩], some (16, false)⟩) (v := undef) rfl (by kernel_rfl) (Or.inr ⟨by rfl, rfl⟩) ?_
        try simp only [Act.put, sT, s0, s1]
        refine tk (i := 23) (oi := ⟨some 85, .binOp .neq 3 (.tmp 79) (.tmp 84) 3, 4, "snap.go:247", #[⟨17, .data⟩, ⟨22, .data⟩, ⟨16, .guard⟩], some (16, false)⟩) (v := undef) rfl (by kernel_rfl) (Or.inr ⟨by rfl, rfl⟩) ?_
        try simp only [Act.put, sT, s0, s1]
        refine tj (i := 24) (oi := ⟨some 86, .pick (.tmp 78) (.const (.bool true)) (.tmp 85), 4, "snap.go:247", #[⟨16, .data⟩, ⟨23, .data⟩], none⟩) rfl (by kernel_rfl) ?_
        try simp only [Act.put, sT, s0, s1]
        refine tj (i := 25) (oi := ⟨some 87, .move (.tmp 86), 4, "snap.go:247", #[⟨24, .data⟩, ⟨16, .chain⟩], none⟩) rfl (by kernel_rfl) ?_
        try simp only [Act.put, sT, s0, s1]
        refine tk (i := 26) (oi := ⟨some 88, .move (.tmp 0), 76, "snap.go:247", #[⟨25, .guard⟩], some (25, false)⟩) (v := undef) rfl (by kernel_rfl) (Or.inr ⟨by rfl, rfl⟩) ?_
        try simp only [Act.put, sT, s0, s1]
        refine tk (i := 27) (oi := ⟨some 89, .nilCheck (.tmp 88), 0, "snap.go:247", #[⟨26, .data⟩, ⟨25, .guard⟩], some (25, false)⟩) (v := undef) rfl (by kernel_rfl) (Or.inr ⟨by rfl, rfl⟩) ?_
        try simp only [Act.put, sT, s0, s1]
        refine tk (i := 28) (oi := ⟨some 90, .fieldAddr 163 (.tmp 89) 4, 0, "snap.go:247", #[⟨27, .data⟩, ⟨25, .guard⟩], some (25, false)⟩) (v := undef) rfl (by kernel_rfl) (Or.inr ⟨by rfl, rfl⟩) ?_
        try simp only [Act.put, sT, s0, s1]
        refine tk (i := 29) (oi := ⟨some 91, .load 158 (.tmp 90), 158, "snap.go:247", #[⟨28, .data⟩, ⟨25, .guard⟩], some (25, false)⟩) (v := undef) rfl (by kernel_rfl) (Or.inr ⟨by rfl, rfl⟩) ?_
        try simp only [Act.put, sT, s0, s1]
        refine tk (i := 30) (oi := ⟨some 92, .move (.tmp 1), 3, "snap.go:247", #[⟨25, .guard⟩], some (25, false)⟩) (v := undef) rfl (by kernel_rfl) (Or.inr ⟨by rfl, rfl⟩) ?_
        try simp only [Act.put, sT, s0, s1]
        refine tk (i := 31) (oi := ⟨some 93, .move (.tmp 15), 45, "snap.go:247", #[⟨25, .guard⟩], some (25, false)⟩) (v := undef) rfl (by kernel_rfl) (Or.inr ⟨by rfl, rfl⟩) ?_
        try simp only [Act.put, sT, s0, s1]
        refine tk (i := 32) (oi := ⟨some 94, .call { callee := .value (.func 105), args := #[.tmp 91, .tmp 92, .tmp 93], argTypes := #[158, 3, 45] }, 4, "snap.go:247", #[⟨29, .data⟩, ⟨30, .data⟩, ⟨31, .data⟩, ⟨25, .chain⟩, ⟨25, .guard⟩], some (25, false)⟩) (v := undef) rfl (by kernel_rfl) (Or.inr ⟨by rfl, rfl⟩) ?_
        try simp only [Act.put, sT, s0, s1]
        refine tk (i := 33) (oi := ⟨some 95, .unOp .not 4 (.tmp 94), 4, "snap.go:247", #[⟨32, .data⟩, ⟨25, .guard⟩], some (25, false)⟩) (v := undef) rfl (by kernel_rfl) (Or.inr ⟨by rfl, rfl⟩) ?_
        try simp only [Act.put, sT, s0, s1]
        refine tj (i := 34) (oi := ⟨some 96, .pick (.tmp 87) (.const (.bool true)) (.tmp 95), 4, "snap.go:247", #[⟨25, .data⟩, ⟨33, .data⟩], none⟩) rfl (by kernel_rfl) ?_
        try simp only [Act.put, sT, s0, s1]
        refine wpAnyH_done (by kernel_rfl) ?_ _
        clear hHeld
        go_wp2_with fail
        refine bodyPost_ret (v := .tuple #[.slice none 0 0, .int .i64 130]) (by simp [results, Tryz.results125, go_sem]) rfl ?_
        exact NO.out HNO.out _ (Below.drew HX5.out)
      by_cases q3 : xs = ct
      rotate_left
      · have e0 : ((st : Int) != 1) = false := by simp [q0]
        have e1 : ((fl 3 : Int) != (ix : Int)) = false := by simp [q1]
        have e2 : (er != 0) = false := by simp [q2]
        have e3 : ((xs : Int) != (ct : Int)) = true := by simp; omega
        have HNO : Hid (m.chB r ⟨ix, ar, ct⟩ k = false) := Lib.hid (by rw [HCB.out.1]; exact decide_eq_false (fun hh => q3 hh.2.2.2.1))
        clear q0 q1 q2 q3
        go_wp2_with fail
        refine wp_region_held_drew (S := fun w' => w'.cell? ⟨b, 3, none⟩ = some (.int .i64 (fl 3 : Int)) ∧ w'.cell? ⟨g, 4, none⟩ = some (.int .i64 (ix : Int)) ∧ w'.cell? ⟨g, 5, none⟩ = some (.int .i64 (ar : Int)) ∧ w'.cell? ⟨g, 6, none⟩ = some (.int .i64 (ct : Int))) (by kernel_rfl) (HS0.out _ (Below.drew (Ext.refl w5))) (fun hHeld => ?_)
        refine tj (i := 0) (oi := ⟨some 62, .move (.tmp 11), 5, "snap.go:247", #[], none⟩) rfl (by kernel_rfl) ?_
        try simp only [Act.put, sT, s0, s1]
        refine tj (i := 1) (oi := ⟨some 63, .binOp .neq 5 (.tmp 62) (.const (.int .u8 1)) 5, 4, "snap.go:247", #[⟨0, .data⟩], none⟩) rfl (by kernel_rfl) ?_
        try simp only [Act.put, sT, s0, s1]
        refine tj (i := 2) (oi := ⟨some 64, .move (.tmp 63), 4, "snap.go:247", #[⟨1, .data⟩], none⟩) rfl (by kernel_rfl) ?_
        try simp only [Act.put, sT, s0, s1]
        refine tj (i := 3) (oi := ⟨some 65, .fieldAddr 44 (.tmp 12) 3, 0, "snap.go:247", #[⟨2, .guard⟩], some (2, false)⟩) rfl (by kernel_rfl) ?_
        try simp only [Act.put, sT, s0, s1]
        refine tj (i := 4) (oi := ⟨some 66, .load 3 (.tmp 65), 3, "snap.go:247", #[⟨3, .data⟩, ⟨2, .guard⟩], some (2, false)⟩) rfl (by kernel_rfl) ?_
        try simp only [Act.put, sT, s0, s1]
        refine tj (i := 5) (oi := ⟨some 67, .move (.tmp 0), 76, "snap.go:247", #[⟨2, .guard⟩], some (2, false)⟩) rfl (by kernel_rfl) ?_
        try simp only [Act.put, sT, s0, s1]
        refine tj (i := 6) (oi := ⟨some 68, .nilCheck (.tmp 67), 0, "snap.go:247", #[⟨5, .data⟩, ⟨2, .guard⟩], some (2, false)⟩) rfl (by kernel_rfl) ?_
        try simp only [Act.put, sT, s0, s1]
        refine tj (i := 7) (oi := ⟨some 69, .fieldAddr 163 (.tmp 68) 4, 0, "snap.go:247", #[⟨6, .data⟩, ⟨2, .guard⟩], some (2, false)⟩) rfl (by kernel_rfl) ?_
        try simp only [Act.put, sT, s0, s1]
        refine tj (i := 8) (oi := ⟨some 70, .fieldAddr 158 (.tmp 69) 0, 0, "snap.go:247", #[⟨7, .data⟩, ⟨2, .guard⟩], some (2, false)⟩) rfl (by kernel_rfl) ?_
        try simp only [Act.put, sT, s0, s1]
        refine tj (i := 9) (oi := ⟨some 71, .load 3 (.tmp 70), 3, "snap.go:247", #[⟨8, .data⟩, ⟨2, .guard⟩], some (2, false)⟩) rfl (by kernel_rfl) ?_
        try simp only [Act.put, sT, s0, s1]
        refine tj (i := 10) (oi := ⟨some 72, .binOp .neq 3 (.tmp 66) (.tmp 71) 3, 4, "snap.go:247", #[⟨4, .data⟩, ⟨9, .data⟩, ⟨2, .guard⟩], some (2, false)⟩) rfl (by kernel_rfl) ?_
        try simp only [Act.put, sT, s0, s1]
        refine tj (i := 11) (oi := ⟨some 73, .pick (.tmp 64) (.const (.bool true)) (.tmp 72), 4, "snap.go:247", #[⟨2, .data⟩, ⟨10, .data⟩], none⟩) rfl (by kernel_rfl) ?_
        try simp only [Act.put, sT, s0, s1]
        refine tj (i := 12) (oi := ⟨some 74, .move (.tmp 73), 4, "snap.go:247", #[⟨11, .data⟩, ⟨2, .chain⟩], none⟩) rfl (by kernel_rfl) ?_
        try simp only [Act.put, sT, s0, s1]
        refine tj (i := 13) (oi := ⟨some 75, .move (.tmp 16), 25, "snap.go:247", #[⟨12, .guard⟩], some (12, false)⟩) rfl (by kernel_rfl) ?_
        try simp only [Act.put, sT, s0, s1]
        refine tj (i := 14) (oi := ⟨some 76, .binOp .neq 25 (.tmp 75) (.const (.int .i64 0)) 25, 4, "snap.go:247", #[⟨13, .data⟩, ⟨12, .guard⟩], some (12, false)⟩) rfl (by kernel_rfl) ?_
        try simp only [Act.put, sT, s0, s1]
        refine tj (i := 15) (oi := ⟨some 77, .pick (.tmp 74) (.const (.bool true)) (.tmp 76), 4, "snap.go:247", #[⟨12, .data⟩, ⟨14, .data⟩], none⟩) rfl (by kernel_rfl) ?_
        try simp only [Act.put, sT, s0, s1]
        refine tj (i := 16) (oi := ⟨some 78, .move (.tmp 77), 4, "snap.go:247", #[⟨15, .data⟩, ⟨12, .chain⟩], none⟩) rfl (by kernel_rfl) ?_
        try simp only [Act.put, sT, s0, s1]
        refine tj (i := 17) (oi := ⟨some 79, .move (.tmp 14), 3, "snap.go:247", #[⟨16, .guard⟩], some (16, false)⟩) rfl (by kernel_rfl) ?_
        try simp only [Act.put, sT, s0, s1]
        refine tj (i := 18) (oi := ⟨some 80, .move (.tmp 0), 76, "snap.go:247", #[⟨16, .guard⟩], some (16, false)⟩) rfl (by kernel_rfl) ?_
        try simp only [Act.put, sT, s0, s1]
        refine tj (i := 19) (oi := ⟨some 81, .nilCheck (.tmp 80), 0, "snap.go:247", #[⟨18, .data⟩, ⟨16, .guard⟩], some (16, false)⟩) rfl (by kernel_rfl) ?_
        try simp only [Act.put, sT, s0, s1]
        refine tj (i := 20) (oi := ⟨some 82, .fieldAddr 163 (.tmp 81) 4, 0, "snap.go:247", #[⟨19, .data⟩, ⟨16, .guard⟩], some (16, false)⟩) rfl (by kernel_rfl) ?_
        try simp only [Act.put, sT, s0, s1]
        refine tj (i := 21) (oi := ⟨some 83, .fieldAddr 158 (.tmp 82) 2, 0, "snap.go:247", #[⟨20, .data⟩, ⟨16, .guard⟩], some (16, false)⟩) rfl (by kernel_rfl) ?_
        try simp only [Act.put, sT, s0, s1]
        refine tj (i := 22) (oi := ⟨some 84, .load 3 (.tmp 83), 3, "snap.go:247", #[⟨21, .data⟩, ⟨16, .guard⟩], some (16, false)⟩) rfl (by kernel_rfl) ?_
        try simp only [Act.put, sT, s0, s1]
        refine tj (i := 23) (oi := ⟨some 85, .binOp .neq 3 (.tmp 79) (.tmp 84) 3, 4, "snap.go:247", #[⟨17, .data⟩, ⟨22, .data⟩, ⟨16, .guard⟩], some (16, false)⟩) rfl (by kernel_rfl) ?_
        try simp only [Act.put, sT, s0, s1]
        refine tj (i := 24) (oi := ⟨some 86, .pick (.tmp 78) (.const (.bool true)) (.tmp 85), 4, "snap.go:247", #[⟨16, .data⟩, ⟨23, .data⟩], none⟩) rfl (by kernel_rfl) ?_
        try simp only [Act.put, sT, s0, s1]
        refine tj (i := 25) (oi := ⟨some 87, .move (.tmp 86), 4, "snap.go:247", #[⟨24, .data⟩, ⟨16, .chain⟩], none⟩) rfl (by kernel_rfl) ?_
        try simp only [Act.put, sT, s0, s1]
        refine tk (i := 26) (oi := ⟨some 88, .move (.tmp 0), 76, "snap.go:247", #[⟨25, .guard⟩], some (25, false)⟩) (v := undef) rfl (by kernel_rfl) (Or.inr ⟨by rfl, rfl⟩) ?_
        try simp only [Act.put, sT, s0, s1]
        refine tk (i := 27) (oi := ⟨some 89, .nilCheck (.tmp 88), 0, "snap.go:247", #[⟨26, .data⟩, ⟨25, .guard⟩], some (25, false)⟩) (v := undef) rfl (by kernel_rfl) (Or.inr ⟨by rfl, rfl⟩) ?_
        try simp only [Act.put, sT, s0, s1]
        refine tk (i := 28) (oi := ⟨some 90, .fieldAddr 163 (.tmp 89) 4, 0, "snap.go:247", #[⟨27, .data⟩, ⟨25, .guard⟩], some (25, false)⟩) (v := undef) rfl (by kernel_rfl) (Or.inr ⟨by rfl, rfl⟩) ?_
        try simp only [Act.put, sT, s0, s1]
        refine tk (i := 29) (oi := ⟨some 91, .load 158 (.tmp 90), 158, "snap.go:247", #[⟨28, .data⟩, ⟨25, .guard⟩], some (25, false)⟩) (v := undef) rfl (by kernel_rfl) (Or.inr ⟨by rfl, rfl⟩) ?_
        try simp only [Act.put, sT, s0, s1]
        refine tk (i := 30) (oi := ⟨some 92, .move (.tmp 1), 3, "snap.go:247", #[⟨25, .guard⟩], some (25, false)⟩) (v := undef) rfl (by kernel_rfl) (Or.inr ⟨by rfl, rfl⟩) ?_
        try simp only [Act.put, sT, s0, s1]
        refine tk (i := 31) (oi := ⟨some 93, .move (.tmp 15), 45, "snap.go:247", #[⟨25, .guard⟩], some (25, false)⟩) (v := undef) rfl (by kernel_rfl) (Or.inr ⟨by rfl, rfl⟩) ?_
        try simp only [Act.put, sT, s0, s1]
        refine tk (i := 32) (oi := ⟨some 94, .call { callee := .value (.func 105), args := #[.tmp 91, .tmp 92, .tmp 93], argTypes := #[158, 3, 45] }, 4, "snap.go:247", #[⟨29, .data⟩, ⟨30, .data⟩, ⟨31, .data⟩, ⟨25, .chain⟩, ⟨25, .guard⟩], some (25, false)⟩) (v := undef) rfl (by kernel_rfl) (Or.inr ⟨by rfl, rfl⟩) ?_
        try simp only [Act.put, sT, s0, s1]
        refine tk (i := 33) (oi := ⟨some 95, .unOp .not 4 (.tmp 94), 4, "snap.go:247", #[⟨32, .data⟩, ⟨25, .guard⟩], some (25, false)⟩) (v := undef) rfl (by kernel_rfl) (Or.inr ⟨by rfl, rfl⟩) ?_
        try simp only [Act.put, sT, s0, s1]
        refine tj (i := 34) (oi := ⟨some 96, .pick (.tmp 87) (.const (.bool true)) (.tmp 95), 4, "snap.go:247", #[⟨25, .data⟩, ⟨33, .data⟩], none⟩) rfl (by kernel_rfl) ?_
        try simp only [Act.put, sT, s0, s1]
        refine wpAnyH_done (by kernel_rfl) ?_ _
        clear hHeld
        go_wp2_with fail
        refine bodyPost_ret (v := .tuple #[.slice none 0 0, .int .i64 130]) (by simp [results, Tryz.results125, go_sem]) rfl ?_
        exact NO.out HNO.out _ (Below.drew HX5.out)
      by_cases q4 : fitsZ (k : Int) ct cs.length = true
      rotate_left
      · have e0 : ((st : Int) != 1) = false := by simp [q0]
        have e1 : ((fl 3 : Int) != (ix : Int)) = false := by simp [q1]
        have e2 : (er != 0) = false := by simp [q2]
        have e3 : ((xs : Int) != (ct : Int)) = false := by simp [q3]
        have e4 : fitsZ (k : Int) ct cs.length = false := by simpa using q4
        have HNO : Hid (m.chB r ⟨ix, ar, ct⟩ k = false) := Lib.hid (by rw [HCB.out.1]; exact decide_eq_false (fun hh => q4 (by rw [fitsZ_nat]; exact hh.2.2.2.2)))
        clear q0 q1 q2 q3 q4
        generalize hfz : fitsZ (k : Int) ct cs.length = fz at *
        subst e4
        go_wp2_with fail
        refine wp_region_held_drew (S := fun w' => w'.cell? ⟨b, 3, none⟩ = some (.int .i64 (fl 3 : Int)) ∧ w'.cell? ⟨g, 4, none⟩ = some (.int .i64 (ix : Int)) ∧ w'.cell? ⟨g, 5, none⟩ = some (.int .i64 (ar : Int)) ∧ w'.cell? ⟨g, 6, none⟩ = some (.int .i64 (ct : Int))) (by kernel_rfl) (HS0.out _ (Below.drew (Ext.refl w5))) (fun hHeld => ?_)
        refine tj (i := 0) (oi := ⟨some 62, .move (.tmp 11), 5, "snap.go:247", #[], none⟩) rfl (by kernel_rfl) ?_
        try simp only [Act.put, sT, s0, s1]
        refine tj (i := 1) (oi := ⟨some 63, .binOp .neq 5 (.tmp 62) (.const (.int .u8 1)) 5, 4, "snap.go:247", #[⟨0, .data⟩], none⟩) rfl (by kernel_rfl) ?_
        try simp only [Act.put, sT, s0, s1]
        refine tj (i := 2) (oi := ⟨some 64, .move (.tmp 63), 4, "snap.go:247", #[⟨1, .data⟩], none⟩) rfl (by kernel_rfl) ?_
        try simp only [Act.put, sT, s0, s1]
        refine tj (i := 3) (oi := ⟨some 65, .fieldAddr 44 (.tmp 12) 3, 0, "snap.go:247", #[⟨2, .guard⟩], some (2, false)⟩) rfl (by kernel_rfl) ?_
        try simp only [Act.put, sT, s0, s1]
        refine tj (i := 4) (oi := ⟨some 66, .load 3 (.tmp 65), 3, "snap.go:247", #[⟨3, .data⟩, ⟨2, .guard⟩], some (2, false)⟩) rfl (by kernel_rfl) ?_
        try simp only [Act.put, sT, s0, s1]
        refine tj (i := 5) (oi := ⟨some 67, .move (.tmp 0), 76, "snap.go:247", #[⟨2, .guard⟩], some (2, false)⟩) rfl (by kernel_rfl) ?_
        try simp only [Act.put, sT, s0, s1]
        refine tj (i := 6) (oi := ⟨some 68, .nilCheck (.tmp 67), 0, "snap.go:247", #[⟨5, .data⟩, ⟨2, .guard⟩], some (2, false)⟩) rfl (by kernel_rfl) ?_
        try simp only [Act.put, sT, s0, s1]
        refine tj (i := 7) (oi := ⟨some 69, .fieldAddr 163 (.tmp 68) 4, 0, "snap.go:247", #[⟨6, .data⟩, ⟨2, .guard⟩], some (2, false)⟩) rfl (by kernel_rfl) ?_
        try simp only [Act.put, sT, s0, s1]
        refine tj (i := 8) (oi := ⟨some 70, .fieldAddr 158 (.tmp 69) 0, 0, "snap.go:247", #[⟨7, .data⟩, ⟨2, .guard⟩], some (2, false)⟩) rfl (by kernel_rfl) ?_
        try simp only [Act.put, sT, s0, s1]
        refine tj (i := 9) (oi := ⟨some 71, .load 3 (.tmp 70), 3, "snap.go:247", #[⟨8, .data⟩, ⟨2, .guard⟩], some (2, false)⟩) rfl (by kernel_rfl) ?_
        try simp only [Act.put, sT, s0, s1]
        refine tj (i := 10) (oi := ⟨some 72, .binOp .neq 3 (.tmp 66) (.tmp 71) 3, 4, "snap.go:247", #[⟨4, .data⟩, ⟨9, .data⟩, ⟨2, .guard⟩], some (2, false)⟩) rfl (by kernel_rfl) ?_
        try simp only [Act.put, sT, s0, s1]
        refine tj (i := 11) (oi := ⟨some 73, .pick (.tmp 64) (.const (.bool true)) (.tmp 72), 4, "snap.go:247", #[⟨2, .data⟩, ⟨10, .data⟩], none⟩) rfl (by kernel_rfl) ?_
        try simp only [Act.put, sT, s0, s1]
        refine tj (i := 12) (oi := ⟨some 74, .move (.tmp 73), 4, "snap.go:247", #[⟨11, .data⟩, ⟨2, .chain⟩], none⟩) rfl (by kernel_rfl) ?_
        try simp only [Act.put, sT, s0, s1]
        refine tj (i := 13) (oi := ⟨some 75, .move (.tmp 16), 25, "snap.go:247", #[⟨12, .guard⟩], some (12, false)⟩) rfl (by kernel_rfl) ?_
        try simp only [Act.put, sT, s0, s1]
        refine tj (i := 14) (oi := ⟨some 76, .binOp .neq 25 (.tmp 75) (.const (.int .i64 0)) 25, 4, "snap.go:247", #[⟨13, .data⟩, ⟨12, .guard⟩], some (12, false)⟩) rfl (by kernel_rfl) ?_
        try simp only [Act.put, sT, s0, s1]
        refine tj (i := 15) (oi := ⟨some 77, .pick (.tmp 74) (.const (.bool true)) (.tmp 76), 4, "snap.go:247", #[⟨12, .data⟩, ⟨14, .data⟩], none⟩) rfl (by kernel_rfl) ?_
        try simp only [Act.put, sT, s0, s1]
        refine tj (i := 16) (oi := ⟨some 78, .move (.tmp 77), 4, "snap.go:247", #[⟨15, .data⟩, ⟨12, .chain⟩], none⟩) rfl (by kernel_rfl) ?_
        try simp only [Act.put, sT, s0, s1]
        refine tj (i := 17) (oi := ⟨some 79, .move (.tmp 14), 3, "snap.go:247", #[⟨16, .guard⟩], some (16, false)⟩) rfl (by kernel_rfl) ?_
        try simp only [Act.put, sT, s0, s1]
        refine tj (i := 18) (oi := ⟨some 80, .move (.tmp 0), 76, "snap.go:247", #[⟨16, .guard⟩], some (16, false)⟩) rfl (by kernel_rfl) ?_
        try simp only [Act.put, sT, s0, s1]
        refine tj (i := 19) (oi := ⟨some 81, .nilCheck (.tmp 80), 0, "snap.go:247", #[⟨18, .data⟩, ⟨16, .guard⟩], some (16, false)⟩) rfl (by kernel_rfl) ?_
        try simp only [Act.put, sT, s0, s1]
        refine tj (i := 20) (oi := ⟨some 82, .fieldAddr 163 (.tmp 81) 4, 0, "snap.go:247", #[⟨19, .data⟩, ⟨16, .guard⟩], some (16, false)⟩) rfl (by kernel_rfl) ?_
        try simp only [Act.put, sT, s0, s1]
        refine tj (i := 21) (oi := ⟨some 83, .fieldAddr 158 (.tmp 82) 2, 0, "snap.go:247", #[⟨20, .data⟩, ⟨16, .guard⟩], some (16, false)⟩) rfl (by kernel_rfl) ?_
        try simp only [Act.put, sT, s0, s1]
        refine tj (i := 22) (oi := ⟨some 84, .load 3 (.tmp 83), 3, "snap.go:247", #[⟨21, .data⟩, ⟨16, .guard⟩], some (16, false)⟩) rfl (by kernel_rfl) ?_
        try simp only [Act.put, sT, s0, s1]
        refine tj (i := 23) (oi := ⟨some 85, .binOp .neq 3 (.tmp 79) (.tmp 84) 3, 4, "snap.go:247", #[⟨17, .data⟩, ⟨22, .data⟩, ⟨16, .guard⟩], some (16, false)⟩) rfl (by kernel_rfl) ?_
        try simp only [Act.put, sT, s0, s1]
        refine tj (i := 24) (oi := ⟨some 86, .pick (.tmp 78) (.const (.bool true)) (.tmp 85), 4, "snap.go:247", #[⟨16, .data⟩, ⟨23, .data⟩], none⟩) rfl (by kernel_rfl) ?_
        try simp only [Act.put, sT, s0, s1]
        refine tj (i := 25) (oi := ⟨some 87, .move (.tmp 86), 4, "snap.go:247", #[⟨24, .data⟩, ⟨16, .chain⟩], none⟩) rfl (by kernel_rfl) ?_
        try simp only [Act.put, sT, s0, s1]
        refine tj (i := 26) (oi := ⟨some 88, .move (.tmp 0), 76, "snap.go:247", #[⟨25, .guard⟩], some (25, false)⟩) rfl (by kernel_rfl) ?_
        try simp only [Act.put, sT, s0, s1]
        refine tj (i := 27) (oi := ⟨some 89, .nilCheck (.tmp 88), 0, "snap.go:247", #[⟨26, .data⟩, ⟨25, .guard⟩], some (25, false)⟩) rfl (by kernel_rfl) ?_
        try simp only [Act.put, sT, s0, s1]
        refine tj (i := 28) (oi := ⟨some 90, .fieldAddr 163 (.tmp 89) 4, 0, "snap.go:247", #[⟨27, .data⟩, ⟨25, .guard⟩], some (25, false)⟩) rfl (by kernel_rfl) ?_
        try simp only [Act.put, sT, s0, s1]
        refine tk (i := 29) (oi := ⟨some 91, .load 158 (.tmp 90), 158, "snap.go:247", #[⟨28, .data⟩, ⟨25, .guard⟩], some (25, false)⟩) (v := .agg #[.int .i64 (ix : Int), .int .i64 (ar : Int), .int .i64 (ct : Int)]) rfl (by kernel_rfl) (yieldsIf_load_mid (by rfl) 158 (.tmp 90) rfl g 4 rfl [.int .i64 (ix : Int), .int .i64 (ar : Int), .int .i64 (ct : Int)] _ (fun w hw => three_range hw.2.1 hw.2.2.1 hw.2.2.2) Tryz.underlying158 rfl (by kernel_rfl)) ?_
        try simp only [Act.put, sT, s0, s1]
        refine tj (i := 30) (oi := ⟨some 92, .move (.tmp 1), 3, "snap.go:247", #[⟨25, .guard⟩], some (25, false)⟩) rfl (by kernel_rfl) ?_
        try simp only [Act.put, sT, s0, s1]
        refine tj (i := 31) (oi := ⟨some 93, .move (.tmp 15), 45, "snap.go:247", #[⟨25, .guard⟩], some (25, false)⟩) rfl (by kernel_rfl) ?_
        try simp only [Act.put, sT, s0, s1]
        refine wpAnyH_ready (rs := [32]) (by kernel_rfl) (by simp) ?_
        refine AllReadyH.cons (o := ⟨some 94, .call { callee := .value (.func 105), args := #[.tmp 91, .tmp 92, .tmp 93], argTypes := #[158, 3, 45] }, 4, "snap.go:247", #[⟨29, .data⟩, ⟨30, .data⟩, ⟨31, .data⟩, ⟨25, .chain⟩, ⟨25, .guard⟩], some (25, false)⟩) rfl (fun K hK => ?_) AllReadyH.nil
        go_simp
        refine (HMB.out _ (Below.drew (Ext.refl w5))).mono ?_
        rintro e w6 ⟨rfl, hx⟩
        have HX6 := Lib.hid hx
        clear hx
        go_wp2_with fail
        refine hK.out _ _ (HS0.out _ ((Below.drew (Ext.refl w5)).trans HX6.out)) (fun hHeld => ?_)
        clear hK K
        try simp only [Act.put, sT, s0, s1]
        refine tj (i := 33) (oi := ⟨some 95, .unOp .not 4 (.tmp 94), 4, "snap.go:247", #[⟨32, .data⟩, ⟨25, .guard⟩], some (25, false)⟩) rfl (by kernel_rfl) ?_
        try simp only [Act.put, sT, s0, s1]
        refine tj (i := 34) (oi := ⟨some 96, .pick (.tmp 87) (.const (.bool true)) (.tmp 95), 4, "snap.go:247", #[⟨25, .data⟩, ⟨33, .data⟩], none⟩) rfl (by kernel_rfl) ?_
        try simp only [Act.put, sT, s0, s1]
        refine wpAnyH_done (by kernel_rfl) ?_ _
        clear hHeld
        go_wp2_with fail
        refine bodyPost_ret (v := .tuple #[.slice none 0 0, .int .i64 130]) (by simp [results, Tryz.results125, go_sem]) rfl ?_
        exact NO.out HNO.out _ (Ext.trans (Below.drew HX5.out) HX6.out)
      have e0 : ((st : Int) != 1) = false := by simp [q0]
      have e1 : ((fl 3 : Int) != (ix : Int)) = false := by simp [q1]
      have e2 : (er != 0) = false := by simp [q2]
      have e3 : ((xs : Int) != (ct : Int)) = false := by simp [q3]
      have YES : Hid (∀ w', Ext w5 w' → Ext w w' → ReadY m r ⟨ix, ar, ct⟩ k w (.returned (.tuple #[.slice A4 cs.length c4, .int .i64 0])) w') := Lib.hid fun w' h5 hw' => by
        have hch : m.chB r ⟨ix, ar, ct⟩ k = true := by rw [HCB.out.1]; exact decide_eq_true ⟨q0, q1, q2, q3, by rw [← fitsZ_nat]; exact q4⟩
        have hcl : m.chL r ⟨ix, ar, ct⟩ k = cs := by rw [HCB.out.2, if_pos (decide_eq_true ⟨q0, q1, q2, q3, by rw [← fitsZ_nat]; exact q4⟩)]
        exact ⟨A4, cs.length, c4, by rw [if_pos hch], by rw [hcl]; exact HB5.out.ext h5, HFR.out, hw'⟩
      generalize hfz : fitsZ (k : Int) ct cs.length = fz at *
      subst q4
      clear q0 q1 q2 q3
      go_wp2_with fail
      refine wp_region_held_drew (S := fun w' => w'.cell? ⟨b, 3, none⟩ = some (.int .i64 (fl 3 : Int)) ∧ w'.cell? ⟨g, 4, none⟩ = some (.int .i64 (ix : Int)) ∧ w'.cell? ⟨g, 5, none⟩ = some (.int .i64 (ar : Int)) ∧ w'.cell? ⟨g, 6, none⟩ = some (.int .i64 (ct : Int))) (by kernel_rfl) (HS0.out _ (Below.drew (Ext.refl w5))) (fun hHeld => ?_)
      refine tj (i := 0) (oi := ⟨some 62, .move (.tmp 11), 5, "snap.go:247", #[], none⟩) rfl (by kernel_rfl) ?_
      try simp only [Act.put, sT, s0, s1]
      refine tj (i := 1) (oi := ⟨some 63, .binOp .neq 5 (.tmp 62) (.const (.int .u8 1)) 5, 4, "snap.go:247", #[⟨0, .data⟩], none⟩) rfl (by kernel_rfl) ?_
      try simp only [Act.put, sT, s0, s1]
      refine tj (i := 2) (oi := ⟨some 64, .move (.tmp 63), 4, "snap.go:247", #[⟨1, .data⟩], none⟩) rfl (by kernel_rfl) ?_
      try simp only [Act.put, sT, s0, s1]
      refine tj (i := 3) (oi := ⟨some 65, .fieldAddr 44 (.tmp 12) 3, 0, "snap.go:247", #[⟨2, .guard⟩], some (2, false)⟩) rfl (by kernel_rfl) ?_
      try simp only [Act.put, sT, s0, s1]
      refine tj (i := 4) (oi := ⟨some 66, .load 3 (.tmp 65), 3, "snap.go:247", #[⟨3, .data⟩, ⟨2, .guard⟩], some (2, false)⟩) rfl (by kernel_rfl) ?_
      try simp only [Act.put, sT, s0, s1]
      refine tj (i := 5) (oi := ⟨some 67, .move (.tmp 0), 76, "snap.go:247", #[⟨2, .guard⟩], some (2, false)⟩) rfl (by kernel_rfl) ?_
      try simp only [Act.put, sT, s0, s1]
      refine tj (i := 6) (oi := ⟨some 68, .nilCheck (.tmp 67), 0, "snap.go:247", #[⟨5, .data⟩, ⟨2, .guard⟩], some (2, false)⟩) rfl (by kernel_rfl) ?_
      try simp only [Act.put, sT, s0, s1]
      refine tj (i := 7) (oi := ⟨some 69, .fieldAddr 163 (.tmp 68) 4, 0, "snap.go:247", #[⟨6, .data⟩, ⟨2, .guard⟩], some (2, false)⟩) rfl (by kernel_rfl) ?_
      try simp only [Act.put, sT, s0, s1]
      refine tj (i := 8) (oi := ⟨some 70, .fieldAddr 158 (.tmp 69) 0, 0, "snap.go:247", #[⟨7, .data⟩, ⟨2, .guard⟩], some (2, false)⟩) rfl (by kernel_rfl) ?_
      try simp only [Act.put, sT, s0, s1]
      refine tj (i := 9) (oi := ⟨some 71, .load 3 (.tmp 70), 3, "snap.go:247", #[⟨8, .data⟩, ⟨2, .guard⟩], some (2, false)⟩) rfl (by kernel_rfl) ?_
      try simp only [Act.put, sT, s0, s1]
      refine tj (i := 10) (oi := ⟨some 72, .binOp .neq 3 (.tmp 66) (.tmp 71) 3, 4, "snap.go:247", #[⟨4, .data⟩, ⟨9, .data⟩, ⟨2, .guard⟩], some (2, false)⟩) rfl (by kernel_rfl) ?_
      try simp only [Act.put, sT, s0, s1]
      refine tj (i := 11) (oi := ⟨some 73, .pick (.tmp 64) (.const (.bool true)) (.tmp 72), 4, "snap.go:247", #[⟨2, .data⟩, ⟨10, .data⟩], none⟩) rfl (by kernel_rfl) ?_
      try simp only [Act.put, sT, s0, s1]
      refine tj (i := 12) (oi := ⟨some 74, .move (.tmp 73), 4, "snap.go:247", #[⟨11, .data⟩, ⟨2, .chain⟩], none⟩) rfl (by kernel_rfl) ?_
      try simp only [Act.put, sT, s0, s1]
      refine tj (i := 13) (oi := ⟨some 75, .move (.tmp 16), 25, "snap.go:247", #[⟨12, .guard⟩], some (12, false)⟩) rfl (by kernel_rfl) ?_
      try simp only [Act.put, sT, s0, s1]
      refine tj (i := 14) (oi := ⟨some 76, .binOp .neq 25 (.tmp 75) (.const (.int .i64 0)) 25, 4, "snap.go:247", #[⟨13, .data⟩, ⟨12, .guard⟩], some (12, false)⟩) rfl (by kernel_rfl) ?_
      try simp only [Act.put, sT, s0, s1]
      refine tj (i := 15) (oi := ⟨some 77, .pick (.tmp 74) (.const (.bool true)) (.tmp 76), 4, "snap.go:247", #[⟨12, .data⟩, ⟨14, .data⟩], none⟩) rfl (by kernel_rfl) ?_
      try simp only [Act.put, sT, s0, s1]
      refine tj (i := 16) (oi := ⟨some 78, .move (.tmp 77), 4, "snap.go:247", #[⟨15, .data⟩, ⟨12, .chain⟩], none⟩) rfl (by kernel_rfl) ?_
      try simp only [Act.put, sT, s0, s1]
      refine tj (i := 17) (oi := ⟨some 79, .move (.tmp 14), 3, "snap.go:247", #[⟨16, .guard⟩], some (16, false)⟩) rfl (by kernel_rfl) ?_
      try simp only [Act.put, sT, s0, s1]
      refine tj (i := 18) (oi := ⟨some 80, .move (.tmp 0), 76, "snap.go:247", #[⟨16, .guard⟩], some (16, false)⟩) rfl (by kernel_rfl) ?_
      try simp only [Act.put, sT, s0, s1]
      refine tj (i := 19) (oi := ⟨some 81, .nilCheck (.tmp 80), 0, "snap.go:247", #[⟨18, .data⟩, ⟨16, .guard⟩], some (16, false)⟩) rfl (by kernel_rfl) ?_
      try simp only [Act.put, sT, s0, s1]
      refine tj (i := 20) (oi := ⟨some 82, .fieldAddr 163 (.tmp 81) 4, 0, "snap.go:247", #[⟨19, .data⟩, ⟨16, .guard⟩], some (16, false)⟩) rfl (by kernel_rfl) ?_
      try simp only [Act.put, sT, s0, s1]
      refine tj (i := 21) (oi := ⟨some 83, .fieldAddr 158 (.tmp 82) 2, 0, "snap.go:247", #[⟨20, .data⟩, ⟨16, .guard⟩], some (16, false)⟩) rfl (by kernel_rfl) ?_
      try simp only [Act.put, sT, s0, s1]
      refine tj (i := 22) (oi := ⟨some 84, .load 3 (.tmp 83), 3, "snap.go:247", #[⟨21, .data⟩, ⟨16, .guard⟩], some (16, false)⟩) rfl (by kernel_rfl) ?_
      try simp only [Act.put, sT, s0, s1]
      refine tj (i := 23) (oi := ⟨some 85, .binOp .neq 3 (.tmp 79) (.tmp 84) 3, 4, "snap.go:247", #[⟨17, .data⟩, ⟨22, .data⟩, ⟨16, .guard⟩], some (16, false)⟩) rfl (by kernel_rfl) ?_
      try simp only [Act.put, sT, s0, s1]
      refine tj (i := 24) (oi := ⟨some 86, .pick (.tmp 78) (.const (.bool true)) (.tmp 85), 4, "snap.go:247", #[⟨16, .data⟩, ⟨23, .data⟩], none⟩) rfl (by kernel_rfl) ?_
      try simp only [Act.put, sT, s0, s1]
      refine tj (i := 25) (oi := ⟨some 87, .move (.tmp 86), 4, "snap.go:247", #[⟨24, .data⟩, ⟨16, .chain⟩], none⟩) rfl (by kernel_rfl) ?_
      try simp only [Act.put, sT, s0, s1]
      refine tj (i := 26) (oi := ⟨some 88, .move (.tmp 0), 76, "snap.go:247", #[⟨25, .guard⟩], some (25, false)⟩) rfl (by kernel_rfl) ?_
      try simp only [Act.put, sT, s0, s1]
      refine tj (i := 27) (oi := ⟨some 89, .nilCheck (.tmp 88), 0, "snap.go:247", #[⟨26, .data⟩, ⟨25, .guard⟩], some (25, false)⟩) rfl (by kernel_rfl) ?_
      try simp only [Act.put, sT, s0, s1]
      refine tj (i := 28) (oi := ⟨some 90, .fieldAddr 163 (.tmp 89) 4, 0, "snap.go:247", #[⟨27, .data⟩, ⟨25, .guard⟩], some (25, false)⟩) rfl (by kernel_rfl) ?_
      try simp only [Act.put, sT, s0, s1]
      refine tk (i := 29) (oi := ⟨some 91, .load 158 (.tmp 90), 158, "snap.go:247", #[⟨28, .data⟩, ⟨25, .guard⟩], some (25, false)⟩) (v := .agg #[.int .i64 (ix : Int), .int .i64 (ar : Int), .int .i64 (ct : Int)]) rfl (by kernel_rfl) (yieldsIf_load_mid (by rfl) 158 (.tmp 90) rfl g 4 rfl [.int .i64 (ix : Int), .int .i64 (ar : Int), .int .i64 (ct : Int)] _ (fun w hw => three_range hw.2.1 hw.2.2.1 hw.2.2.2) Tryz.underlying158 rfl (by kernel_rfl)) ?_
      try simp only [Act.put, sT, s0, s1]
      refine tj (i := 30) (oi := ⟨some 92, .move (.tmp 1), 3, "snap.go:247", #[⟨25, .guard⟩], some (25, false)⟩) rfl (by kernel_rfl) ?_
      try simp only [Act.put, sT, s0, s1]
      refine tj (i := 31) (oi := ⟨some 93, .move (.tmp 15), 45, "snap.go:247", #[⟨25, .guard⟩], some (25, false)⟩) rfl (by kernel_rfl) ?_
      try simp only [Act.put, sT, s0, s1]
      refine wpAnyH_ready (rs := [32]) (by kernel_rfl) (by simp) ?_
      refine AllReadyH.cons (o := ⟨some 94, .call { callee := .value (.func 105), args := #[.tmp 91, .tmp 92, .tmp 93], argTypes := #[158, 3, 45] }, 4, "snap.go:247", #[⟨29, .data⟩, ⟨30, .data⟩, ⟨31, .data⟩, ⟨25, .chain⟩, ⟨25, .guard⟩], some (25, false)⟩) rfl (fun K hK => ?_) AllReadyH.nil
      go_simp
      refine (HMB.out _ (Below.drew (Ext.refl w5))).mono ?_
      rintro e w6 ⟨rfl, hx⟩
      have HX6 := Lib.hid hx
      clear hx
      go_wp2_with fail
      refine hK.out _ _ (HS0.out _ ((Below.drew (Ext.refl w5)).trans HX6.out)) (fun hHeld => ?_)
      clear hK K
      try simp only [Act.put, sT, s0, s1]
      refine tj (i := 33) (oi := ⟨some 95, .unOp .not 4 (.tmp 94), 4, "snap.go:247", #[⟨32, .data⟩, ⟨25, .guard⟩], some (25, false)⟩) rfl (by kernel_rfl) ?_
      try simp only [Act.put, sT, s0, s1]
      refine tj (i := 34) (oi := ⟨some 96, .pick (.tmp 87) (.const (.bool true)) (.tmp 95), 4, "snap.go:247", #[⟨25, .data⟩, ⟨33, .data⟩], none⟩) rfl (by kernel_rfl) ?_
      try simp only [Act.put, sT, s0, s1]
      refine wpAnyH_done (by kernel_rfl) ?_ _
      clear hHeld
      go_wp2_with fail
      refine bodyPost_ret (v := .tuple #[.slice A4 cs.length c4, .int .i64 0]) (by simp [results, Tryz.results125, go_sem]) rfl ?_
      exact YES.out _ ((Below.drew (Ext.refl w5)).trans HX6.out) (Ext.trans (Below.drew HX5.out) HX6.out)
end
end Go.Proofs.YtgcinagkbdcgiaaGreatDoor

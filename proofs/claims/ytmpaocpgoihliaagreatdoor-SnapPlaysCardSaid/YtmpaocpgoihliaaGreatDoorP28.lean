/-
  The contract of the document's own test: can so many bytes be that chunk's, of so many?
-/
import Derived.Test.YtmpaocpgoihliaaGreatDoorP00
import Derived.Test.YtmpaocpgoihliaaGreatDoorP06
import Derived.Test.YtmpaocpgoihliaaGreatDoorP13
import Derived.Test.YtmpaocpgoihliaaGreatDoorP26
import Derived.Test.YtmpaocpgoihliaaGreatDoorP27
import Derived.Deep.QuietTactic
import Derived.BigQuiet
namespace Go.Proofs.YtmpaocpgoihliaaGreatDoor
set_option maxRecDepth 100000
section
open Go Go.RowKit
theorem fitsZ_iff {k : Int} {count n : Nat} : fitsZ k count n = true ↔ 1 ≤ count ∧ count ≤ 8 ∧ 0 ≤ k ∧ k < (count : Int) ∧ n ≤ 80 ∧ (k + 1 < (count : Int) → n = 80) ∧ (1 ≤ n ∨ count = 1) := by
 unfold fitsZ
 rw [Bool.and_eq_true, decide_eq_true_iff, fitsC_iff]
 constructor
 ·rintro ⟨a, b, c, d, e, f, g⟩
  exact ⟨b, c, a, by omega, e, fun h => f (by omega), g⟩
 ·rintro ⟨b, c, a, d, e, f, g⟩
  exact ⟨a, b, c, by omega, e, fun h => f (by omega), g⟩
theorem fitsZ_not {k : Int} {count n : Nat} (h : ¬ (1 ≤ count ∧ count ≤ 8 ∧ 0 ≤ k ∧ k < (count : Int) ∧ n ≤ 80 ∧ (k + 1 < (count : Int) → n = 80) ∧ (1 ≤ n ∨ count = 1))) : fitsZ k count n = false := by
 cases e : fitsZ k count n with
 | false => rfl
 | true => exact absurd (fitsZ_iff.1 e) h
set_option maxHeartbeats 1600000 in
theorem zrfits_of (k : Int) (count n : Nat) (w : World) :
 Calls Tryz.prog 87 #[.int .i64 k, .int .i64 (count : Int), .int .i64 (n : Int)] w fun e w' => e = .returned (.bool (fitsZ k count n)) ∧ w = w' := by
 by_cases h1 : 1 ≤ count
 case neg =>
  have hF := fitsZ_not (k := k) (count := count) (n := n) (by omega)
  have h1 : (count : Int) < 1 := by omega
  rw [hF]
  go_enter Tryz.func87, Tryz.ntmps87
  go_wp2_with fail
  go_ret
  exact ⟨rfl, rfl⟩
 have h1' : (1 : Int) ≤ (count : Int) := by omega
 by_cases h2 : count ≤ 8
 case neg =>
  have hF := fitsZ_not (k := k) (count := count) (n := n) (by omega)
  have h2 : (8 : Int) < (count : Int) := by omega
  rw [hF]
  go_enter Tryz.func87, Tryz.ntmps87
  go_wp2_with fail
  go_ret
  exact ⟨rfl, rfl⟩
 have h2' : (count : Int) ≤ 8 := by omega
 by_cases h3 : 0 ≤ k
 case neg =>
  have hF := fitsZ_not (k := k) (count := count) (n := n) (by omega)
  have h3 : k < 0 := by omega
  rw [hF]
  go_enter Tryz.func87, Tryz.ntmps87
  go_wp2_with fail
  go_ret
  exact ⟨rfl, rfl⟩
 by_cases h4 : k < (count : Int)
 case neg =>
  have hF := fitsZ_not (k := k) (count := count) (n := n) (by omega)
  have h4 : (count : Int) ≤ k := by omega
  rw [hF]
  go_enter Tryz.func87, Tryz.ntmps87
  go_wp2_with fail
  go_ret
  exact ⟨rfl, rfl⟩
 by_cases h5 : n ≤ 80
 case neg =>
  have hF := fitsZ_not (k := k) (count := count) (n := n) (by omega)
  have h5 : (80 : Int) < (n : Int) := by omega
  rw [hF]
  go_enter Tryz.func87, Tryz.ntmps87
  go_wp2_with fail
  go_ret
  exact ⟨rfl, rfl⟩
 have h5' : (n : Int) ≤ 80 := by omega
 by_cases h6 : k < (count : Int) - 1
 case pos =>
  by_cases h7 : n = 80
  ·have hF := fitsZ_iff (k := k) (count := count) (n := n) |>.2 ⟨h1, h2, h3, h4, h5, fun _ => h7, by omega⟩
   have h7' : (n : Int) = 80 := by omega
   rw [hF]
   go_enter Tryz.func87, Tryz.ntmps87
   go_wp2_with fail
   go_ret
   exact ⟨by first | rfl | simp, rfl⟩
  ·have hF := fitsZ_not (k := k) (count := count) (n := n) (by omega)
   have h7' : ¬ (n : Int) = 80 := by omega
   rw [hF]
   go_enter Tryz.func87, Tryz.ntmps87
   go_wp2_with fail
   go_ret
   exact ⟨by simp [h7'], rfl⟩
 have h6' : (count : Int) - 1 ≤ k := by omega
 by_cases h7 : 1 ≤ n
 case pos =>
  have hF := fitsZ_iff (k := k) (count := count) (n := n) |>.2 ⟨h1, h2, h3, h4, h5, fun _ => by omega, .inl h7⟩
  have h7' : (1 : Int) ≤ (n : Int) := by omega
  rw [hF]
  go_enter Tryz.func87, Tryz.ntmps87
  go_wp2_with fail
  go_ret
  exact ⟨by first | rfl | simp [h7'], rfl⟩
 have h7' : (n : Int) < 1 := by omega
 by_cases h8 : count = 1
 ·have hF := fitsZ_iff (k := k) (count := count) (n := n) |>.2 ⟨h1, h2, h3, h4, h5, fun _ => by omega, .inr h8⟩
  have h8' : (count : Int) = 1 := by omega
  rw [hF]
  go_enter Tryz.func87, Tryz.ntmps87
  go_wp2_with fail
  go_ret
  exact ⟨by first | rfl | simp [h8'], rfl⟩
 ·have hF := fitsZ_not (k := k) (count := count) (n := n) (by omega)
  have h8' : ¬ (count : Int) = 1 := by omega
  rw [hF]
  go_enter Tryz.func87, Tryz.ntmps87
  go_wp2_with fail
  go_ret
  exact ⟨by first | rfl | (simp [h8', h7']; done) | (simp [h8']; omega), rfl⟩
end
section
open Go Go.RowKit
structure RShAt (w : World) (y d : Nat) (r inc : Int) (s : ShM) : Prop where
 row : w.heap[y]? = some (.cells #[.pointer (some ⟨d, 0, none⟩), .int .i64 r, .int .i64 inc, .int .i64 (s.ix : Int), .int .i64 (s.ar : Int), .int .i64 (s.ct : Int)] 146 (0, 0))
section
variable {w w' : World} {y d : Nat} {r inc : Int} {s : ShM}
theorem RShAt.lt (h : RShAt w y d r inc s) : y < w.heap.size := (Array.getElem?_eq_some_iff.1 h.row).1
theorem RShAt.ext (h : RShAt w y d r inc s) (hx : Ext w w') : RShAt w' y d r inc s := ⟨(hx.block y h.lt).trans h.row⟩
theorem RShAt.mod {F : Nat → Prop} (h : RShAt w y d r inc s) (hm : Mod F w w') (hF : ¬ F y) : RShAt w' y d r inc s := ⟨heap_mod h.row hm hF⟩
theorem RShAt.cells (h : RShAt w y d r inc s) : w.cell? ⟨y, 0, none⟩ = some (.pointer (some ⟨d, 0, none⟩)) ∧ w.cell? ⟨y, 1, none⟩ = some (.int .i64 r) ∧ w.cell? ⟨y, 2, none⟩ = some (.int .i64 inc) ∧
 w.cell? ⟨y, 3, none⟩ = some (.int .i64 (s.ix : Int)) ∧ w.cell? ⟨y, 4, none⟩ = some (.int .i64 (s.ar : Int)) ∧ w.cell? ⟨y, 5, none⟩ = some (.int .i64 (s.ct : Int)) :=
 ⟨cell_of_row w y 0 _ _ _ h.row, cell_of_row w y 1 _ _ _ h.row, cell_of_row w y 2 _ _ _ h.row, cell_of_row w y 3 _ _ _ h.row, cell_of_row w y 4 _ _ _ h.row, cell_of_row w y 5 _ _ _ h.row⟩
set_option maxHeartbeats 800000 in
theorem rsdown_of {p : Nat → Nat} {m : DM} (h : RShAt w y d r inc s) (hd : RD w d p m) :
 Calls Tryz.prog 80 #[.pointer (some ⟨y, 0, none⟩)] w fun e w' => e = .returned (.bool (!m.up)) ∧ w = w' := by
 obtain ⟨c0, _⟩ := h.cells
 obtain ⟨_, _, _, d4, d5⟩ := rd_heads hd
 have hu : (!m.up) = (m.down || m.dead) := by unfold DM.up; simp
 rw [hu]
 clear h hd hu
 cases hdn : m.down with
 | true =>
  rw [hdn] at d4
  go_enter Tryz.func80, Tryz.ntmps80
  go_wp2_with fail
  go_ret
  exact ⟨rfl, rfl⟩
 | false =>
  rw [hdn] at d4
  generalize m.dead = b at *
  go_enter Tryz.func80, Tryz.ntmps80
  go_wp2_with fail
  go_ret
  exact ⟨by simp, rfl⟩
end
end
section
open Go Go.RowKit
theorem stM_three (l : List Nat) (x y z : Int) : stM l x y z = 0 ∨ stM l x y z = 1 ∨ stM l x y z = 2 := by
 unfold stM stN
 repeat' split
 all_goals omega
def RReadY (m : DM) (r : Int) (s : ShM) (k : Nat) (w : World) (e : Ending) (w' : World) : Prop := ∃ A N c, e = .returned (.tuple #[.slice A N c, .bool (m.chB r s k)]) ∧ By w' A N c (m.chL r s k) ∧ Ext w w'
theorem RReadY.no {m : DM} {r : Int} {s : ShM} {k : Nat} {w : World} (h : m.chB r s k = false) (w' : World) (hx : Ext w w') : RReadY m r s k w (.returned (.tuple #[.slice none 0 0, .bool false])) w' :=
 ⟨none, 0, 0, by rw [h], by
  have e : m.chL r s k = [] := by
   unfold DM.chB at h
   unfold DM.chL bytC
   rw [if_neg (by rw [h]; simp)]
  rw [e]
  exact By.nil_ _, hx⟩
set_option maxHeartbeats 3200000 in
theorem rsread_of {w : World} {y d : Nat} {r inc : Int} {s : ShM} {q : Nat → Nat} {m : DM} (h : RShAt w y d r inc s) (hd : RD w d q m) (hct : s.ct ≤ 8) (har : s.ar ≤ 1) (k : Nat) (hk : k < s.ct) (hfew : m.waits.length ≤ 1000000) :
 Calls Tryz.prog 88 #[.pointer (some ⟨y, 0, none⟩), .int .i64 (k : Int)] w (RReadY m r s k w) := by
 obtain ⟨ix, ar, ct⟩ := s
 dsimp only at hct har hk
 obtain ⟨i0, hi, hz0, hz1, hz2⟩ := info_parts byte_info
 have hok0 : m.Ok := (rd_size hd).2.2
 obtain ⟨p, hp⟩ : ∃ p : Nat, 8 * ar + k = p := ⟨_, rfl⟩
 have hp16 : p < 16 := by omega
 have hpi : 8 * (ar : Int) + (k : Int) = (p : Int) := by omega
 have hS := first5 hp16
 have hfb : (sC p : Int) ≤ 300 := by have := sC_lt hp16; omega
 have hplc := plcL_chk hok0 (p : Int)
 rw [hS] at hplc
 have hchb : m.chB r ⟨ix, ar, ct⟩ k = okC r ⟨ix, ar, ct⟩ k (m.kb (p : Int)) := by unfold DM.chB; dsimp only; rw [hp]
 have hchl : m.chL r ⟨ix, ar, ct⟩ k = bytC r ⟨ix, ar, ct⟩ k (m.kb (p : Int)) := by unfold DM.chL; dsimp only; rw [hp]
 have hfail : ∀ j : Nat, j < 2 → (m.read ((sC p : Int) + (j : Int))).2 ≠ 0 → m.chB r ⟨ix, ar, ct⟩ k = false := fun j hj hne => by
  have : m.plcL (sC p : Int) 2 = [] := by
   unfold DM.plcL
   rw [if_pos (by unfold DM.gotB; exact anyIn_iff.2 ⟨_, by simpa using hne, by omega, by omega⟩)]
  rw [hchb, ← hplc, this, okC_nil]
 have hgood : m.gotB (sC p : Int) 2 = false → m.gotL (sC p : Int) 2 = m.kb (p : Int) := fun hh => by
  rw [← hplc]
  unfold DM.plcL
  rw [if_neg (by rw [hh]; simp)]
 have HFAIL := Lib.hid hfail
 have HGOOD := Lib.hid hgood
 have HCB := Lib.hid (And.intro hchb hchl)
 have HD := Lib.hid hd
 have HOK := Lib.hid hok0
 have H := Lib.hid h
 have HFW := Lib.hid hfew
 have HS := Lib.hid hS
 have HP := Lib.hid hp
 have NO : Hid (m.chB r ⟨ix, ar, ct⟩ k = false → ∀ w', Ext w w' → RReadY m r ⟨ix, ar, ct⟩ k w (.returned (.tuple #[.slice none 0 0, .bool false])) w') := Lib.hid fun h w' hx => RReadY.no h w' hx
 obtain ⟨S, hSS⟩ : ∃ S : Int, (sC p : Int) = S := ⟨_, rfl⟩
 rw [hSS] at HFAIL HGOOD HS hfb
 have hS0 : 0 ≤ S := by rw [← hSS]; omega
 obtain ⟨c0, c1, c2, c3, c4, c5⟩ := h.cells
 dsimp only at c3 c4 c5
 have har' : (ar : Int) ≤ 1 := by omega
 have hk8 : (k : Int) ≤ 8 := by omega
 clear h hd hfew hfail hgood hchb hchl hplc hS hp hok0 c0 c1 c2 c3 c5
 go_enter Tryz.func88, Tryz.ntmps88
 go_upto_region 2 with (fail)
 try rw [hpi]
 clear c4
 go_wp2_with fail
 go_loopw [7, 8] (fun v i wr => ∃ (j na : Nat) (Aa : Option Addr) (ca : Nat), j ≤ 2 ∧ na ≤ 64 * j ∧ i = .int .i64 (j : Int) ∧ v = .slice Aa na ca ∧ Hid (wr.ownsRow w.heap.size 5 1 (.slice Aa na ca) na (vb (m.gotL S j))) ∧ Hid (Ext w wr) ∧ Hid (∀ b ∈ m.gotL S j, b < 256) ∧ Hid (m.gotB S j = false)) (fun _ i _ => 2 - (intOf i).toNat)
 case atStart => exact ⟨0, 0, none, 0, by omega, by omega, by simp, rfl, Lib.hid (World.ownsRow_nil _ _ _ _), Lib.hid (Ext.refl _), Lib.hid (fun b hb => by simp [DM.gotL] at hb), Lib.hid rfl⟩
 case round =>
  obtain ⟨j, na, Aa, ca, hj, hna, rfl, rfl, HO, HX, HB, HLO⟩ := hrel
  by_cases hlt : j < 2
  ·have hn := read_new HOK.out (S + (j : Int))
   have hm : (m.gotL S (j + 1)) = m.gotL S j ++ (m.read (S + (j : Int))).1 := rfl
   have HM := Lib.hid hm
   have HN := Lib.hid hn
   have hlo : (m.read (S + (j : Int))).2 = 0 → m.gotB S (j + 1) = false := fun h0 => by
    have := anyIn_succ (fun s => decide ((m.read s).2 ≠ 0)) S j
    have h2 : anyIn (fun s => decide ((m.read s).2 ≠ 0)) S j = false := HLO.out
    unfold DM.gotB
    rw [this, h2]
    simp [h0]
   have HLO2 := Lib.hid hlo
   have HANY := Lib.hid (HFAIL.out j hlt)
   have hS1 : wr.drew.cell? ⟨y, 0, none⟩ = some (.pointer (some ⟨d, 0, none⟩)) := (H.out.ext HX.out.drew).cells.1
   have HF1 := Lib.hid (rfirst_any 5 (p : Int) wr.drew)
   rw [HS.out] at HF1
   have hrd := rread_out (HD.out.ext HX.out.drew) (S + (j : Int)) (by omega) HFW.out
   have HRD : Hid (Calls Tryz.prog 175 #[.pointer (some ⟨d, 0, none⟩), .int .i64 (IntKind.i64.wrap (S + (j : Int)))] wr.drew fun e w' => ∃ A n c, e = .returned (.tuple #[.slice A n c, .int .i64 (m.read (S + (j : Int))).2]) ∧ By w' A n c (m.read (S + (j : Int))).1 ∧ Ext wr.drew w') := Lib.hid (by rw [wrap_i64 (by omega) (by omega)]; exact hrd)
   clear hrd
   clear hm hn hlo
   generalize m.gotL S j = L at *
   generalize (m.read (S + (j : Int))).1 = L2 at *
   generalize (m.read (S + (j : Int))).2 = E2 at *
   go_wp2_with fail
   go_region_held3 (fun w' => w'.cell? ⟨y, 0, none⟩ = some (.pointer (some ⟨d, 0, none⟩)))
    (first | with_reducible exact hS1 | with_reducible exact hS3)
    (first
     | (go_at_call 126; ((with_reducible refine HF1.out.mono ?_); rintro e w4 ⟨rfl, rfl⟩))
     | (go_at_call 175; ((with_reducible refine HRD.out.mono ?_); rintro e w3 ⟨A2, n2, c2, rfl, hby, hx⟩; have hS3 := ext_of_cell hx hS1; have HX3 : Hid (Ext wr w3) := Lib.hid (Ext.trans (Ext.refl wr).drew hx); have HBY := Lib.hid hby; clear hx hby)))
   obtain rfl : n2 = L2.length := HBY.out.len.symm
   have HO3 := Lib.hid (ownsRow_ext HO.out HX3.out)
   have HX4 : Hid (Ext w w3) := Lib.hid (HX.out.trans HX3.out)
   by_cases h0 : E2 = 0
   ·subst h0
    have hl2 := HN.out.2
    go_wp2_with (at_builtin; refine wpList_append_by rfl _ _ 45 rfl w.heap.size 5 i0 Tryz.underlying45 hi hz0 hz1 hz2 _ na (vb L) rfl HO3.out A2 L2.length c2 L2 rfl HBY.out (by omega) (Ext.size HX4.out) ?_)
    intro v2 w2 hown hg
    obtain ⟨hx, A3, c3', rfl, hb2, ho2⟩ := app_step HX4.out HO3.out hg hown HB.out HBY.out.rd.lt
    have HX5 := Lib.hid hx
    have HO5 := Lib.hid ho2
    have HLT := Lib.hid (Bs.rd hb2).lt
    clear hx hb2 ho2 hown hg
    go_wp2_with fail
    go_roundw
    case rel => exact ⟨j + 1, na + L2.length, A3, c3', by omega, by omega, by go_num, rfl, Lib.hid (by rw [HM.out]; exact HO5.out), HX5, Lib.hid (by rw [HM.out]; exact HLT.out), Lib.hid (HLO2.out trivial)⟩
    case measure => simp [intOf]; omega
   ·have hne : (E2 != 0) = true := by simpa using h0
    have HNE := Lib.hid h0
    clear h0
    go_wp2_with fail
    refine bodyPost_ret (v := .tuple #[.slice none 0 0, .bool false]) (by simp [results, Tryz.results88, go_sem]) rfl ?_
    exact NO.out (HANY.out HNE.out) _ HX4.out
  ·obtain rfl : j = 2 := by omega
   have hcl := (H.out.ext HX.out).cells.2.1
   have HBY : Hid (By wr Aa na ca (m.gotL S 2)) := Lib.hid (Bs.of_own HO.out HB.out)
   have hKB := HGOOD.out HLO.out
   obtain ⟨L, hLe⟩ : ∃ L, m.gotL S 2 = L := ⟨_, rfl⟩
   rw [hLe] at hKB HBY
   rw [← hKB] at HCB
   clear HFAIL HGOOD hKB HO HB hLe HLO
   have hlen : L.length = na := HBY.out.len
   have HML := Lib.hid (Nat.le_trans (mbl_len L r 5 (p : Int)) (show L.length ≤ 128 by omega))
   have HMI := Lib.hid (rmine_any Aa na ca L r 5 (p : Int) wr HBY.out)
   have HST : Hid (stM L r 5 (p : Int) = 0 ∨ stM L r 5 (p : Int) = 1 ∨ stM L r 5 (p : Int) = 2) := Lib.hid (stM_three L r 5 (p : Int))
   have hok : okC r ⟨ix, ar, ct⟩ k L = decide (stM L r 5 (p : Int) = 1 ∧ mfl L r 5 (p : Int) 3 = ix ∧ (paZ (mbl L r 5 (p : Int))).2.2 = 0 ∧ (paZ (mbl L r 5 (p : Int))).1 = ct ∧ fitsC k ct (paZ (mbl L r 5 (p : Int))).2.1.length = true) := by unfold okC; dsimp only; rw [HP.out]
   have hby' : bytC r ⟨ix, ar, ct⟩ k L = if okC r ⟨ix, ar, ct⟩ k L = true then (paZ (mbl L r 5 (p : Int))).2.1 else [] := by unfold bytC; dsimp only; rw [HP.out]
   rw [hby', hok] at HCB
   have HZP := Lib.hid (fun (A : Option Addr) (n c : Nat) (V : World) (hb : By V A n c (mbl L r 5 (p : Int))) (hn : n ≤ 140737488355000) => zrparse_any A n c (mbl L r 5 (p : Int)) V hb hn)
   clear hlen hok hby'
   generalize stM L r 5 (p : Int) = st at *
   generalize mfl L r 5 (p : Int) = fl at *
   generalize mbl L r 5 (p : Int) = B at *
   go_wp2_with fail
   refine HMI.out.mono ?_
   rintro e w3 ⟨A2, N2, c2, rfl, hb, _, hx⟩
   have HX3 := Lib.hid (HX.out.trans hx)
   have HB := Lib.hid hb
   have hN : N2 ≤ 140737488355000 := by have := hb.len; have := HML.out; omega
   have HN2 := Lib.hid hN
   clear hb hx hN hcl
   go_upto_region 11 with (fail)
   have hE4 : Ext w3 (w3.alloc (.cells #[.int .i64 (fl 0 : Int), .int .i64 (fl 1 : Int), .int .i64 (fl 2 : Int), .int .i64 (fl 3 : Int), .int .i64 (fl 4 : Int)] 44)) := (Ext.refl w3).alloc _
   have hz := heap_alloc_new w3 (.cells #[.int .i64 (fl 0 : Int), .int .i64 (fl 1 : Int), .int .i64 (fl 2 : Int), .int .i64 (fl 3 : Int), .int .i64 (fl 4 : Int)] 44)
   generalize (w3.alloc (.cells #[.int .i64 (fl 0 : Int), .int .i64 (fl 1 : Int), .int .i64 (fl 2 : Int), .int .i64 (fl 3 : Int), .int .i64 (fl 4 : Int)] 44)) = w4 at *
   obtain ⟨b, hb⟩ : ∃ b, w3.heap.size = b := ⟨_, rfl⟩
   rw [hb] at hz ⊢
   have HX4 : Hid (Ext w w4) := Lib.hid (HX3.out.trans hE4)
   have HB4 := Lib.hid (HB.out.ext hE4)
   have hc4 := (H.out.ext HX4.out).cells
   have k1 : w4.cell? ⟨b, 3, none⟩ = some (.int .i64 (fl 3 : Int)) := cell_of_row w4 b 3 _ _ _ hz
   have k2 : w4.cell? ⟨y, 3, none⟩ = some (.int .i64 (ix : Int)) := hc4.2.2.2.1
   have c5 : w4.cell? ⟨y, 5, none⟩ = some (.int .i64 (ct : Int)) := hc4.2.2.2.2.2
   clear hz hE4 hb hc4
   by_cases q0 : st = 1
   case neg =>
    have hst := HST.out
    clear HST
    rcases hst with e | e | e
    ·subst e
     have HNO : Hid (m.chB r ⟨ix, ar, ct⟩ k = false) := Lib.hid (by rw [HCB.out.1]; exact decide_eq_false (fun hh => by have := hh.1; omega))
     go_quiet (fail)
     go_wp2_with fail
     refine bodyPost_ret (v := .tuple #[.slice none 0 0, .bool false]) (by simp [results, Tryz.results88, go_sem]) rfl ?_
     exact NO.out HNO.out _ (by first | exact HX4.out | exact HX4.out.drew | exact HX4.out.drewN _)
    ·exact absurd e q0
    ·subst e
     have HNO : Hid (m.chB r ⟨ix, ar, ct⟩ k = false) := Lib.hid (by rw [HCB.out.1]; exact decide_eq_false (fun hh => by have := hh.1; omega))
     go_quiet (fail)
     go_wp2_with fail
     refine bodyPost_ret (v := .tuple #[.slice none 0 0, .bool false]) (by simp [results, Tryz.results88, go_sem]) rfl ?_
     exact NO.out HNO.out _ (by first | exact HX4.out | exact HX4.out.drew | exact HX4.out.drewN _)
   subst q0
   by_cases q1 : fl 3 = ix
   case neg =>
    have e1 : ((fl 3 : Int) != (ix : Int)) = true := by simp; omega
    have HNO : Hid (m.chB r ⟨ix, ar, ct⟩ k = false) := Lib.hid (by rw [HCB.out.1]; exact decide_eq_false (fun hh => q1 hh.2.1))
    clear q1
    go_quiet (fail)
    go_wp2_with fail
    refine bodyPost_ret (v := .tuple #[.slice none 0 0, .bool false]) (by simp [results, Tryz.results88, go_sem]) rfl ?_
    exact NO.out HNO.out _ (by first | exact HX4.out | exact HX4.out.drew | exact HX4.out.drewN _)
   have HQ1 := Lib.hid q1
   rw [q1] at k1
   have e1 : ((ix : Int) != (ix : Int)) = false := by simp
   clear q1
   go_quiet (fail)
   go_wp2_with fail
   refine (HZP.out A2 N2 c2 _ (by first | exact HB4.out | exact HB4.out.ext ((Ext.refl w4).drewN _) | exact HB4.out.ext (Ext.refl w4).drew) HN2.out).mono ?_
   rintro e w5 ⟨A4, N4, c4, rfl, hb5, hx⟩
   have HX5 : Hid (Ext w w5) := Lib.hid (Ext.trans (by first | exact HX4.out | exact HX4.out.drewN _ | exact HX4.out.drew) hx)
   have c5 : w5.cell? ⟨y, 5, none⟩ = some (.int .i64 (ct : Int)) := (H.out.ext HX5.out).cells.2.2.2.2.2
   have HB5 := Lib.hid hb5
   have hl5 := hb5.len
   clear hx hb5 HZP HMI HB HB4 HBY
   generalize (paZ B).1 = xs at *
   generalize (paZ B).2.1 = cs at *
   generalize (paZ B).2.2 = er at *
   subst hl5
   by_cases q2 : er = 0
   case neg =>
    have e2 : (er != 0) = true := by simpa using q2
    have HNO : Hid (m.chB r ⟨ix, ar, ct⟩ k = false) := Lib.hid (by rw [HCB.out.1]; exact decide_eq_false (fun hh => q2 hh.2.2.1))
    clear q2
    go_wp2_with fail
    refine bodyPost_ret (v := .tuple #[.slice none 0 0, .bool false]) (by simp [results, Tryz.results88, go_sem]) rfl ?_
    exact NO.out HNO.out _ HX5.out
   subst q2
   by_cases q3 : xs = ct
   case neg =>
    have e3 : ((xs : Int) != (ct : Int)) = true := by simp; omega
    have HNO : Hid (m.chB r ⟨ix, ar, ct⟩ k = false) := Lib.hid (by rw [HCB.out.1]; exact decide_eq_false (fun hh => q3 hh.2.2.2.1))
    clear q3
    go_wp2_with fail
    refine bodyPost_ret (v := .tuple #[.slice none 0 0, .bool false]) (by simp [results, Tryz.results88, go_sem]) rfl ?_
    exact NO.out HNO.out _ HX5.out
   subst q3
   have HFT := Lib.hid (zrfits_of (k : Int) xs cs.length w5)
   rw [fitsZ_nat] at HFT
   cases hfc : fitsC k xs cs.length with
   | false =>
    rw [hfc] at HFT
    have HNO : Hid (m.chB r ⟨ix, ar, xs⟩ k = false) := Lib.hid (by rw [HCB.out.1]; exact decide_eq_false (fun hh => by have := hh.2.2.2.2; rw [hfc] at this; cases this))
    clear hfc
    go_wp2_with fail
    refine HFT.out.mono ?_
    rintro e w6 ⟨rfl, rfl⟩
    go_wp2_with fail
    refine bodyPost_ret (v := .tuple #[.slice none 0 0, .bool false]) (by simp [results, Tryz.results88, go_sem]) rfl ?_
    exact NO.out HNO.out _ HX5.out
   | true =>
    rw [hfc] at HFT
    have HYB : Hid (m.chB r ⟨ix, ar, xs⟩ k = true ∧ m.chL r ⟨ix, ar, xs⟩ k = cs) := Lib.hid (by
     refine ⟨HCB.out.1.trans (decide_eq_true (by simp [HQ1.out, hfc])), ?_⟩
     rw [HCB.out.2, if_pos (decide_eq_true (by simp [HQ1.out, hfc]))])
    clear hfc
    go_wp2_with fail
    refine HFT.out.mono ?_
    rintro e w6 ⟨rfl, rfl⟩
    go_wp2_with fail
    refine bodyPost_ret (v := .tuple #[.slice A4 cs.length c4, .bool true]) (by simp [results, Tryz.results88, go_sem]) rfl ?_
    exact ⟨A4, cs.length, c4, by rw [HYB.out.1], by rw [HYB.out.2]; exact HB5.out, HX5.out⟩
end
section
open Go Go.RowKit
set_option maxHeartbeats 800000 in
theorem yishurt_of {w : World} {g d : Nat} {r inc : Int} {s : ShM} {F : Nat → Prop} {m : DM} (h : ShAt w g d r inc s) (hd : PDisk w d F m) (hL : LaidY w) (hct : s.ct ≤ 8) (har : s.ar ≤ 1) (k : Nat) (hk : k < s.ct) (hfew : m.waits.length ≤ 1000000) :
 Calls Tryz.prog 86 #[.pointer (some ⟨g, 0, none⟩), .int .i64 (k : Int)] w fun e w' => e = .returned (.bool (!m.chB r s k)) ∧ Ext w w' := by
 have hr := yread_of h hd hL hct har k hk hfew
 obtain ⟨B, hB⟩ : ∃ B, m.chB r s k = B := ⟨_, rfl⟩
 unfold ReadY at hr
 rw [hB] at hr ⊢
 have HR := Lib.hid hr
 clear h hd hL hct har hk hfew hr hB
 go_enter Tryz.func86, Tryz.ntmps86
 go_wp2_with fail
 refine HR.out.mono ?_
 rintro e w1 ⟨A, n, c, rfl, hby, hfr, hx⟩
 have HX := Lib.hid hx
 clear hby hfr hx
 cases B
 ·rw [if_neg (by simp)]
  go_wp2_with fail
  go_ret
  exact ⟨rfl, HX.out⟩
 ·rw [if_pos rfl]
  go_wp2_with fail
  go_ret
  exact ⟨rfl, HX.out⟩
set_option maxHeartbeats 800000 in
theorem ychunk_of {w : World} {g d : Nat} {r inc : Int} {s : ShM} {F : Nat → Prop} {m : DM} (h : ShAt w g d r inc s) (hd : PDisk w d F m) (hL : LaidY w) (hct : s.ct ≤ 8) (har : s.ar ≤ 1) (k : Int) (hfew : m.waits.length ≤ 1000000) :
 Calls Tryz.prog 96 #[.pointer (some ⟨g, 0, none⟩), .int .i64 k] w fun e w' => ∃ A N c, e = .returned (.tuple #[.slice A N c, .int .i64 (m.chunkE r s k)]) ∧ By w' A N c (m.chunkO r s k) ∧ (∀ p, A = some p → w.heap.size ≤ p.block) ∧ Ext w w' := by
 obtain ⟨c0, c1, c2, c3, c4, c5, c6⟩ := h.cells
 have hm := ymade_yes g w c0
 have HM := Lib.hid hm
 have hw := ywithin_of 0 k ((s.ct : Int) - 1) w
 have HW := Lib.hid hw
 have hu := up_pd hd
 have HU := Lib.hid hu
 clear hm hw hu c0 c2 c3 c4 c5
 by_cases hin : 0 ≤ k ∧ k < (s.ct : Int)
 ·have hi : inI 0 k ((s.ct : Int) - 1) = true := inI_iff.2 ⟨hin.1, by omega⟩
  rw [hi] at HW
  cases hup : m.up with
  | false =>
   have he : m.chunkE r s k = 5 := by unfold DM.chunkE; rw [if_neg (fun x => x hin), if_pos hup]
   have ho : m.chunkO r s k = [] := by unfold DM.chunkO; rw [if_neg (by rw [he]; omega)]
   rw [he, ho]
   rw [hup] at HU
   clear he ho hin hi hup h hd hL har hfew
   go_enter Tryz.func96, Tryz.ntmps96
   go_wp2_with fail
   refine HM.out.mono ?_
   rintro e w1 ⟨rfl, rfl⟩
   go_wp2_with fail
   refine HW.out.mono ?_
   rintro e w1 ⟨rfl, rfl⟩
   go_wp2_with fail
   refine HU.out.mono ?_
   rintro e w1 ⟨rfl, rfl⟩
   go_wp2_with fail
   refine bodyPost_ret (v := .tuple #[.slice none 0 0, .int .i64 5]) (by simp [results, Tryz.results96, go_sem]) rfl ?_
   exact ⟨none, 0, 0, rfl, By.nil_ _, fun p hp => (by cases hp), Ext.refl _⟩
  | true =>
   obtain ⟨n, rfl⟩ : ∃ n : Nat, k = (n : Int) := ⟨k.toNat, by omega⟩
   have he : m.chunkE r s (n : Int) = (if m.chB r s n = true then 0 else 130) := by unfold DM.chunkE; rw [if_neg (fun x => x hin), if_neg (by rw [hup]; simp), Int.toNat_natCast]
   have ho : m.chunkO r s (n : Int) = m.chL r s n := by
    unfold DM.chunkO
    rw [he, Int.toNat_natCast]
    cases hb : m.chB r s n with
    | true => simp
    | false =>
     have : m.chL r s n = [] := by
      unfold DM.chB at hb
      unfold DM.chL bytC
      rw [if_neg (by rw [hb]; simp)]
     simp [this]
   have hr := yread_of h hd hL hct har n (by omega) hfew
   rw [he, ho]
   rw [hup] at HU
   unfold ReadY at hr
   obtain ⟨E, hE⟩ : ∃ E : Int, (if m.chB r s n = true then (0 : Int) else 130) = E := ⟨_, rfl⟩
   rw [hE] at hr ⊢
   have HR := Lib.hid hr
   clear hE
   clear he ho hin hi hup h hd hL har hfew hr
   go_enter Tryz.func96, Tryz.ntmps96
   go_wp2_with fail
   refine HM.out.mono ?_
   rintro e w1 ⟨rfl, rfl⟩
   go_wp2_with fail
   refine HW.out.mono ?_
   rintro e w1 ⟨rfl, rfl⟩
   go_wp2_with fail
   refine HU.out.mono ?_
   rintro e w1 ⟨rfl, rfl⟩
   go_wp2_with fail
   refine HR.out.mono ?_
   rintro e w1 ⟨A, N, c, rfl, hby, hfr, hx⟩
   have HF := Lib.hid (And.intro hby (And.intro hfr hx))
   clear hby hfr hx
   go_wp2_with fail
   refine bodyPost_ret (v := .tuple #[.slice A N c, .int .i64 E]) (by simp [results, Tryz.results96, go_sem]) rfl ?_
   exact ⟨A, N, c, rfl, HF.out.1, HF.out.2.1, HF.out.2.2⟩
 ·have hi : inI 0 k ((s.ct : Int) - 1) = false := by
   cases e : inI 0 k ((s.ct : Int) - 1) with
   | false => rfl
   | true => exact absurd (inI_iff.1 e) (by omega)
  rw [hi] at HW
  have he : m.chunkE r s k = 2 := by unfold DM.chunkE; rw [if_pos hin]
  have ho : m.chunkO r s k = [] := by unfold DM.chunkO; rw [if_neg (by rw [he]; omega)]
  rw [he, ho]
  clear he ho hin hi h hd hL har hfew
  go_enter Tryz.func96, Tryz.ntmps96
  go_wp2_with fail
  refine HM.out.mono ?_
  rintro e w1 ⟨rfl, rfl⟩
  go_wp2_with fail
  refine HW.out.mono ?_
  rintro e w1 ⟨rfl, rfl⟩
  go_wp2_with fail
  refine bodyPost_ret (v := .tuple #[.slice none 0 0, .int .i64 2]) (by simp [results, Tryz.results96, go_sem]) rfl ?_
  exact ⟨none, 0, 0, rfl, By.nil_ _, fun p hp => (by cases hp), Ext.refl _⟩
end
section
open Go Go.RowKit
theorem chL_len (m : DM) (r : Int) (s : ShM) (k : Nat) : (m.chL r s k).length ≤ 80 := by
 unfold DM.chL bytC
 split
 ·rename_i h
  unfold okC at h
  exact (fitsC_iff.1 (of_decide_eq_true h).2.2.2.2).2.2.2.1
 ·simp
set_option maxHeartbeats 3200000 in
theorem ybytes_of {w : World} {g d : Nat} {r inc : Int} {s : ShM} {F : Nat → Prop} {m : DM} (h : ShAt w g d r inc s) (hd : PDisk w d F m) (hL : LaidY w) (hct : s.ct ≤ 8) (har : s.ar ≤ 1) (hfew : m.waits.length ≤ 1000000) :
 Calls Tryz.prog 94 #[.pointer (some ⟨g, 0, none⟩)] w fun e w' => ∃ A N c, e = .returned (.tuple #[.slice A N c, .int .i64 (m.allE r s)]) ∧ By w' A N c (m.allO r s) ∧ (∀ p, A = some p → w.heap.size ≤ p.block) ∧ Ext w w' := by
 obtain ⟨i0, hi, hz0, hz1, hz2⟩ := info_parts byte_info
 obtain ⟨c0, c1, c2, c3, c4, c5, c6⟩ := h.cells
 have hm := ymade_yes g w c0
 have HM := Lib.hid hm
 have hu := up_pd hd
 have HU := Lib.hid hu
 clear hm hu c0 c2 c3 c4 c5
 cases hup : m.up with
 | false =>
  have he : m.allE r s = 5 := by unfold DM.allE; rw [if_pos hup]
  have ho : m.allO r s = [] := by unfold DM.allO; rw [if_neg (by rw [he]; omega)]
  rw [he, ho]
  rw [hup] at HU
  clear he ho hup h hd hL har hfew
  go_enter Tryz.func94, Tryz.ntmps94
  go_wp2_with fail
  refine HM.out.mono ?_
  rintro e w1 ⟨rfl, rfl⟩
  go_wp2_with fail
  refine HU.out.mono ?_
  rintro e w1 ⟨rfl, rfl⟩
  go_wp2_with fail
  refine bodyPost_ret (v := .tuple #[.slice none 0 0, .int .i64 5]) (by simp [results, Tryz.results94, go_sem]) rfl ?_
  exact ⟨none, 0, 0, rfl, By.nil_ _, fun p hp => (by cases hp), Ext.refl _⟩
 | true =>
  have he : m.allE r s = (if m.hurtK r s s.ct = [] then 0 else 130) := by unfold DM.allE; rw [if_neg (by rw [hup]; simp)]
  have ho : m.allO r s = (if m.hurtK r s s.ct = [] then m.catK r s s.ct else []) := by
   unfold DM.allO
   rw [he]
   by_cases hh : m.hurtK r s s.ct = [] <;> simp [hh]
  have HEO := Lib.hid (And.intro he ho)
  rw [hup] at HU
  have HR : Hid (∀ V (j : Nat), Ext w V → j < s.ct → Calls Tryz.prog 174 #[.pointer (some ⟨g, 0, none⟩), .int .i64 (j : Int)] V (ReadY m r s j V)) := Lib.hid fun V j hV hj => yread_of (h.ext hV) (hd.ext hV) (hL.ext hV) hct har j hj hfew
  have hbad : ∀ j, j < s.ct → m.chB r s j = false → m.hurtK r s s.ct ≠ [] := fun j hj hb hn => by
   have := hurtK_nil.1 hn j hj
   rw [hb] at this
   cases this
  have HBAD := Lib.hid hbad
  clear he ho hup h hd hL har hfew hbad
  go_enter Tryz.func94, Tryz.ntmps94
  go_wp2_with fail
  refine HM.out.mono ?_
  rintro e w1 ⟨rfl, rfl⟩
  go_wp2_with fail
  refine HU.out.mono ?_
  rintro e w1 ⟨rfl, rfl⟩
  go_wp2_with fail
  go_loopw [4, 22] (fun v i wr => ∃ (j na : Nat) (Aa : Option Addr) (ca : Nat), j ≤ s.ct ∧ na ≤ 80 * j ∧ i = .int .i64 (j : Int) ∧ v = .slice Aa na ca ∧ Hid (wr.ownsRow w.heap.size 5 1 (.slice Aa na ca) na (vb (m.catK r s j))) ∧ Hid (Ext w wr) ∧ Hid (∀ b ∈ m.catK r s j, b < 256) ∧ Hid (∀ i, i < j → m.chB r s i = true)) (fun _ i _ => s.ct - (intOf i).toNat)
  case atStart => exact ⟨0, 0, none, 0, by omega, by omega, rfl, rfl, Lib.hid (World.ownsRow_nil _ _ _ _), Lib.hid (Ext.refl _), Lib.hid (fun b hb => by simp [DM.catK] at hb), Lib.hid fun i hi => by omega⟩
  case round =>
   obtain ⟨j, na, Aa, ca, hj, hna, rfl, rfl, HO, HX, HB, HF⟩ := hrel
   by_cases hlt : j < s.ct
   ·have hr := HR.out wr j HX.out hlt
    unfold ReadY at hr
    have hlen := chL_len m r s j
    have HCS := Lib.hid (catK_succ m r s j)
    have HBJ := Lib.hid (HBAD.out j hlt)
    cases hb : m.chB r s j with
    | true =>
     rw [if_pos hb] at hr
     have HR := Lib.hid hr
     have HB1 := Lib.hid hb
     clear hr hb
     generalize m.chL r s j = L2 at *
     go_wp2_with fail
     refine HR.out.mono ?_
     rintro e w1 ⟨A2, n2, c2, rfl, hby, hfr, hx⟩
     obtain rfl : n2 = L2.length := hby.len.symm
     have HX1 : Hid (Ext w w1) := Lib.hid (HX.out.trans hx)
     have HO1 : Hid (w1.ownsRow w.heap.size 5 1 (.slice Aa na ca) na (vb (m.catK r s j))) := Lib.hid (own_ext HO.out hx)
     have HBY := Lib.hid hby
     clear hby hfr hx
     go_wp2_with (at_builtin; refine wpList_append_by rfl _ _ 45 rfl w.heap.size 5 i0 Tryz.underlying45 hi hz0 hz1 hz2 _ na (vb (m.catK r s j)) rfl HO1.out A2 L2.length c2 L2 rfl HBY.out (by omega) (Ext.size HX1.out) ?_)
     intro v2 w2 hown hg
     obtain ⟨hx, A3, c3', rfl, hb2, ho2⟩ := app_step HX1.out HO1.out hg hown HB.out HBY.out.rd.lt
     have HX2 := Lib.hid hx
     have HO2 := Lib.hid ho2
     have HLT := Lib.hid (Bs.rd hb2).lt
     clear hx hb2 ho2 hown hg
     go_wp2_with fail
     go_roundw
     case rel => exact ⟨j + 1, na + L2.length, A3, c3', by omega, by omega, by go_num, rfl, Lib.hid (by rw [HCS.out]; exact HO2.out), HX2, Lib.hid (by rw [HCS.out]; exact HLT.out), Lib.hid fun i hi => by
      by_cases hij : i = j
      ·subst hij; exact HB1.out
      ·exact HF.out i (by omega)⟩
     case measure => simp [intOf]; omega
    | false =>
     rw [if_neg (by rw [hb]; simp)] at hr
     have HR := Lib.hid hr
     have HNE := Lib.hid (HBJ.out hb)
     clear hr hb
     go_wp2_with fail
     refine HR.out.mono ?_
     rintro e w1 ⟨A2, n2, c2, rfl, hby, hfr, hx⟩
     have HX1 : Hid (Ext w w1) := Lib.hid (HX.out.trans hx)
     clear hby hfr hx
     go_wp2_with fail
     refine bodyPost_ret (v := .tuple #[.slice none 0 0, .int .i64 130]) (by simp [results, Tryz.results94, go_sem]) rfl ?_
     exact ⟨none, 0, 0, by rw [HEO.out.1, if_neg HNE.out], by rw [HEO.out.2, if_neg HNE.out]; exact By.nil_ _, fun p hp => (by cases hp), HX1.out⟩
   ·obtain rfl : j = s.ct := by omega
    have HNE := Lib.hid (hurtK_nil.2 HF.out)
    go_wp2_with fail
    refine bodyPost_ret (v := .tuple #[.slice Aa na ca, .int .i64 0]) (by simp [results, Tryz.results94, go_sem]) rfl ?_
    exact ⟨Aa, na, ca, by rw [HEO.out.1, if_pos HNE.out], by rw [HEO.out.2, if_pos HNE.out]; exact Bs.of_own HO.out HB.out, fun p hp => (HO.out.lt p.block (by rw [hp]; rfl)).1, HX.out⟩
end
end Go.Proofs.YtmpaocpgoihliaaGreatDoor

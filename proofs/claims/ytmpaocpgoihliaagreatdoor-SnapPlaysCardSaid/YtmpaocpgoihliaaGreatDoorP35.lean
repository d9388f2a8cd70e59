/-
  The contract of slot's Print, with that its body lies in memory of the call's own.
-/
import Derived.Test.YtmpaocpgoihliaaGreatDoorP00
import Derived.Test.YtmpaocpgoihliaaGreatDoorP07
import Derived.Test.YtmpaocpgoihliaaGreatDoorP11
import Derived.Test.YtmpaocpgoihliaaGreatDoorP12
import Derived.Test.YtmpaocpgoihliaaGreatDoorP13
import Derived.Test.YtmpaocpgoihliaaGreatDoorP15
import Derived.Test.YtmpaocpgoihliaaGreatDoorP18
import Derived.Test.YtmpaocpgoihliaaGreatDoorP19
import Derived.Test.YtmpaocpgoihliaaGreatDoorP21
import Derived.Test.YtmpaocpgoihliaaGreatDoorP28
import Derived.Test.YtmpaocpgoihliaaGreatDoorP29
import Derived.Test.YtmpaocpgoihliaaGreatDoorP31
import Derived.Test.YtmpaocpgoihliaaGreatDoorP32
import Derived.Test.YtmpaocpgoihliaaGreatDoorP34
import Derived.Deep.DeepCutAuto
namespace Go.Proofs.YtmpaocpgoihliaaGreatDoor
set_option maxRecDepth 100000
section
open Go Go.RowKit
theorem sjoin3o {A1 A2 : Option Addr} {c1 c2 : Nat} {l1 l2 : List Nat} (w : World) (h1 : By w A1 7 c1 l1) (h2 : By w A2 1 c2 l2) :
 Calls Tryz.prog 103 #[.slice (some ⟨w.heap.size, 0, none⟩) 2 2] (w.alloc (.cells #[.slice A1 7 c1, .slice A2 1 c2] 45)) fun e w' => ∃ A' c', e = .returned (.slice A' 8 c') ∧ By w' A' 8 c' (l1 ++ l2) ∧ (∀ g o, A' = some ⟨g, o, none⟩ → w.heap.size ≤ g) ∧ Ext w w' := by
 have hcat : cat [(.slice A1 7 c1, l1), (.slice A2 1 c2, l2)] = l1 ++ l2 := by simp [cat]
 have hN : (cat [((.slice A1 7 c1 : Value), l1), (.slice A2 1 c2, l2)]).length = 8 := by rw [hcat, List.length_append, h1.len, h2.len]
 have hlt : ∀ b ∈ l1 ++ l2, b < 256 := by
  intro b hb
  rcases List.mem_append.1 hb with h | h
  ·exact h1.rd.lt b h
  ·exact h2.rd.lt b h
 have hp := parts_lit (w := w) (ps := [(.slice A1 7 c1, l1), (.slice A2 1 c2, l2)]) (m := 2) (cs := #[.slice A1 7 c1, .slice A2 1 c2]) (t := 45) rfl rfl (fun p hp => by
  simp only [List.mem_cons, List.not_mem_nil, or_false] at hp
  rcases hp with rfl | rfl
  ·exact ⟨_, _, _, rfl, h1⟩
  ·exact ⟨_, _, _, rfl, h2⟩)
 refine (join_any _ 2 2 _ _ hp (by omega) (by rw [hN]; omega)).mono ?_
 rintro e w' ⟨A', c', rfl, hown, hx⟩
 rw [hN, hcat] at hown
 refine ⟨A', c', by rw [hN], Bs.of_own hown hlt, fun g o hA => ?_, ((Ext.refl w).alloc _).trans hx⟩
 have := (hown.lt g (by rw [hA]; rfl)).1
 simp at this
 omega
end
section
open Go Go.RowKit
set_option maxHeartbeats 800000 in
theorem yprint_own (s : ShM) (w : World) (hL : LaidY w) (hs : manOk s = true) :
 Calls Tryz.prog 78 #[.agg #[.int .i64 (s.ix : Int), .int .i64 (s.ar : Int), .int .i64 (s.ct : Int)]] w fun e w' => ∃ A' c', e = .returned (.slice A' 8 c') ∧ By w' A' 8 c' (manL s) ∧ (∀ g o, A' = some ⟨g, o, none⟩ → w.heap.size ≤ g) ∧ Ext w w' := by
 obtain ⟨x, y, h⟩ := s
 have hrr := manOk_iff.1 hs
 dsimp only at hrr
 have hE := (Ext.refl w).alloc (.cells #[.int .i64 (x : Int), .int .i64 (y : Int), .int .i64 (h : Int)] 137)
 have hrow := heap_alloc_new w (.cells #[.int .i64 (x : Int), .int .i64 (y : Int), .int .i64 (h : Int)] 137)
 have HB := Lib.hid (show x ≤ 1099511627776 ∧ y < 256 ∧ h < 256 by omega)
 have HL := Lib.hid (hL.ext hE)
 have HR := Lib.hid hrow
 have HE := Lib.hid hE
 have i0 := fun w => (idx_three (x : Int) (y : Int) (h : Int) w).1
 have i1 := fun w => (idx_three (x : Int) (y : Int) (h : Int) w).2.1
 have i2 := fun w => (idx_three (x : Int) (y : Int) (h : Int) w).2.2
 have HRL : Hid (manL ⟨x, y, h⟩ = digs 6 x ++ [y] ++ [h]) := Lib.hid (by unfold manL; rw [digs_byte (n := y) (by omega), digs_byte (n := h) (by omega)])
 clear hrr hs hE hL hrow
 go_enter Tryz.func78, Tryz.ntmps78
 go_upto_region 1 with (fail)
 generalize (w.alloc (.cells #[.int .i64 (x : Int), .int .i64 (y : Int), .int .i64 (h : Int)] 137)) = w1 at *
 generalize hg : w.heap.size = g at *
 have HG := Lib.hid hg
 clear hg
 have b0 := cell_of_row w1 g 0 _ _ _ HR.out
 have b1 := cell_of_row w1 g 1 _ _ _ HR.out
 have b2 := cell_of_row w1 g 2 _ _ _ HR.out
 obtain ⟨t0, t1, t2⟩ := HL.out.t
 go_wp2_with fail
 refine wp_loop_rounds 4 ?_
 rw [rounds_succ]
 go_wp2_with fail
 refine (sput6 x _ HL.out.f.a.o HB.out.1).mono ?_
 rintro e w2 ⟨A1, c1, rfl, hb, hx⟩
 have HE := Lib.hid (HE.out.trans hx)
 have HL := Lib.hid (HL.out.ext hx)
 have HBy := Lib.hid hb
 clear hx hb b0 b1 b2 t0 t1 t2
 go_wp2_with fail
 refine (sjoin1 w2 (By.none_ w2) HBy.out).mono ?_
 rintro e w3 ⟨A2, c2, rfl, hb, hx⟩
 have HE := Lib.hid (HE.out.trans hx)
 have HL := Lib.hid (HL.out.ext hx)
 have HBy := Lib.hid hb
 clear hx hb
 obtain ⟨t0, t1, t2⟩ := HL.out.t
 go_wp2_with fail
 rw [rounds_succ]
 go_wp2_with fail
 refine (sput1 y _ HL.out.f.a.o HB.out.2.1).mono ?_
 rintro e w4 ⟨A3, c3, rfl, hb, hx⟩
 have HE := Lib.hid (HE.out.trans hx)
 have HL := Lib.hid (HL.out.ext hx)
 have HBy := Lib.hid (HBy.out.ext hx)
 have HB2 := Lib.hid hb
 clear hx hb t0 t1 t2
 go_wp2_with fail
 refine (sjoin2 w4 HBy.out HB2.out).mono ?_
 rintro e w5 ⟨A4, c4, rfl, hb, hx⟩
 have HE := Lib.hid (HE.out.trans hx)
 have HL := Lib.hid (HL.out.ext hx)
 have HBy := Lib.hid hb
 clear hx hb HB2
 obtain ⟨t0, t1, t2⟩ := HL.out.t
 go_wp2_with fail
 rw [rounds_succ]
 go_wp2_with fail
 refine (sput1 h _ HL.out.f.a.o HB.out.2.2).mono ?_
 rintro e w6 ⟨A5, c5, rfl, hb, hx⟩
 have HE := Lib.hid (HE.out.trans hx)
 have HL := Lib.hid (HL.out.ext hx)
 have HBy := Lib.hid (HBy.out.ext hx)
 have HB2 := Lib.hid hb
 clear hx hb t0 t1 t2
 go_wp2_with fail
 refine (sjoin3o w6 HBy.out HB2.out).mono ?_
 rintro e w7 ⟨A6, c6, rfl, hb, hfr, hx⟩
 have HFR : Hid (∀ g o, A6 = some ⟨g, o, none⟩ → w.heap.size ≤ g) := Lib.hid fun g o hA => Nat.le_trans HE.out.size (hfr g o hA)
 clear hfr
 have HE := Lib.hid (HE.out.trans hx)
 have HBy := Lib.hid hb
 clear hx hb HB2
 go_wp2_with fail
 rw [rounds_succ]
 go_wp2_with fail
 go_ret
 exact ⟨A6, c6, rfl, HRL.out ▸ HBy.out, HFR.out, HE.out⟩
end
section
open Go Go.RowKit
set_option maxHeartbeats 800000 in
theorem yinstall_arg {w : World} {g d : Nat} {r inc : Int} {s : ShM} (h : ShAt w g d r inc s) (hx : s.ix ≤ 1099511627776) (i : Int) (hi : ¬ ((s.ix : Int) < i ∧ i ≤ 1099511627752)) (A : Option Addr) (n c : Nat) :
 Calls Tryz.prog 26 #[.pointer (some ⟨g, 0, none⟩), .int .i64 i, .slice A n c] w fun e w' => e = .returned (.int .i64 2) ∧ w = w' := by
 obtain ⟨c0, c1, c2, c3, c4, c5, c6⟩ := h.cells
 have HM := Lib.hid (ymade_yes g w c0)
 have hin : inI ((s.ix : Int) + 1) i 1099511627752 = false := by
  cases e : inI ((s.ix : Int) + 1) i 1099511627752 with
  | false => rfl
  | true => exact absurd (inI_iff.1 e) (by omega)
 have HW := Lib.hid (ywithin_of ((s.ix : Int) + 1) i 1099511627752 w)
 rw [hin] at HW
 clear h hi hin c0 c1 c2 c3 c5 c6
 go_enter Tryz.func26, Tryz.ntmps26
 go_wp2_with fail
 refine HM.out.mono ?_
 rintro e w1 ⟨rfl, rfl⟩
 go_wp2_with fail
 refine HW.out.mono ?_
 rintro e w1 ⟨rfl, rfl⟩
 go_wp2_with fail
 go_ret
 exact ⟨rfl, rfl⟩
set_option maxHeartbeats 800000 in
theorem yinstall_long {w : World} {g d : Nat} {r inc : Int} {s : ShM} (h : ShAt w g d r inc s) (hx : s.ix ≤ 1099511627776) (i : Int) (hi : (s.ix : Int) < i ∧ i ≤ 1099511627752) (A : Option Addr) (n c : Nat) (hn : 640 < n) :
 Calls Tryz.prog 26 #[.pointer (some ⟨g, 0, none⟩), .int .i64 i, .slice A n c] w fun e w' => e = .returned (.int .i64 3) ∧ Ext w w' := by
 obtain ⟨c0, c1, c2, c3, c4, c5, c6⟩ := h.cells
 have HM := Lib.hid (ymade_yes g w c0)
 have hin : inI ((s.ix : Int) + 1) i 1099511627752 = true := inI_iff.2 (by omega)
 have HW := Lib.hid (ywithin_of ((s.ix : Int) + 1) i 1099511627752 w)
 have HS := Lib.hid (zsplit_no A n c hn)
 rw [hin] at HW
 clear h hi hin hn c0 c1 c2 c3 c5 c6
 go_enter Tryz.func26, Tryz.ntmps26
 go_wp2_with fail
 refine HM.out.mono ?_
 rintro e w1 ⟨rfl, rfl⟩
 go_wp2_with fail
 refine HW.out.mono ?_
 rintro e w1 ⟨rfl, rfl⟩
 go_wp2_with fail
 refine (HS.out _).mono ?_
 rintro e w1 ⟨rfl, hx⟩
 have HX := Lib.hid hx
 clear hx
 go_wp2_with fail
 go_ret
 exact ⟨rfl, HX.out⟩
theorem wrs_size {m : DM} {E S : Int} {L : List Nat} : ∀ k, (wrsE (E, m) S L k).2.size = m.size
 | 0 => rfl
 | k + 1 => by
  have ih := wrs_size (m := m) (E := E) (S := S) (L := L) k
  show (unE (wrsE (E, m) S L k) _).2.size = _
  unfold unE
  split
  ·rw [write_size]; exact ih
  ·exact ih
theorem wrsY_size {r inc : Int} {s : ShM} : ∀ (l : List (List Nat)) (x : Int × DM) (k : Nat), (wrsY r inc s x k l).2.size = x.2.size
 | [], x, k => rfl
 | c :: l, x, k => by
  show (wrsY r inc s _ (k + 1) l).2.size = _
  obtain ⟨E, m⟩ := x
  rw [wrsY_size l, wrs_size]
theorem wrY_size (m : DM) (r inc : Int) (s : ShM) (k : Nat) (l : List (List Nat)) : (m.wrY r inc s k l).2.size = m.size := by
 unfold DM.wrY unE
 split
 ·rw [flush_size, wrsY_size]
 ·rw [wrsY_size]
theorem flush_waits (m : DM) : m.flush.2.waits.length ≤ m.waits.length := by
 unfold DM.flush
 split
 ·simp
 ·split <;> simp
theorem wrY_waits (m : DM) (r inc : Int) (s : ShM) (k : Nat) (l : List (List Nat)) : (m.wrY r inc s k l).2.waits.length ≤ m.waits.length + 2 * l.length := by
 have h := wrsY_waits (r := r) (inc := inc) (s := s) l (0, m) k
 unfold DM.wrY unE
 split
 ·exact Nat.le_trans (flush_waits _) h
 ·exact h
theorem knownY {sz : Nat} {r : Int} (hr : 0 ≤ r ∧ r ≤ 6) (h : sz = 156) : knownC sz r 2 = 0 := by
 unfold knownC
 rw [if_neg (by omega), if_neg (by omega)]
theorem keepIn {V W : World} {g b d : Nat} {x2 x3 x4 x5 x6 : Value} (k : Hid (Ext V.drew W)) (h : Hid (V.cell? ⟨g, 1, none⟩ = some (.pointer (some ⟨d, 0, none⟩)) ∧ V.cell? ⟨g, 2, none⟩ = some x2 ∧ V.cell? ⟨g, 3, none⟩ = some x3 ∧ V.cell? ⟨b, 0, none⟩ = some x4 ∧ V.cell? ⟨b, 1, none⟩ = some x5 ∧ V.cell? ⟨b, 2, none⟩ = some x6)) :
 W.cell? ⟨g, 1, none⟩ = some (.pointer (some ⟨d, 0, none⟩)) ∧ W.cell? ⟨g, 2, none⟩ = some x2 ∧ W.cell? ⟨g, 3, none⟩ = some x3 ∧ W.cell? ⟨b, 0, none⟩ = some x4 ∧ W.cell? ⟨b, 1, none⟩ = some x5 ∧ W.cell? ⟨b, 2, none⟩ = some x6 :=
 have hx : Ext V W := (Below.drew (Ext.refl V)).trans k.out
 ⟨ext_of_cell hx h.out.1, ext_of_cell hx h.out.2.1, ext_of_cell hx h.out.2.2.1, ext_of_cell hx h.out.2.2.2.1, ext_of_cell hx h.out.2.2.2.2.1, ext_of_cell hx h.out.2.2.2.2.2⟩
theorem keepInM {V W : World} {F : Nat → Prop} {g b d : Nat} {x2 x3 x4 x5 x6 : Value} (k : Hid (Mod F V W)) (hn : Hid (¬ F g ∧ ¬ F b)) (h : Hid (V.cell? ⟨g, 1, none⟩ = some (.pointer (some ⟨d, 0, none⟩)) ∧ V.cell? ⟨g, 2, none⟩ = some x2 ∧ V.cell? ⟨g, 3, none⟩ = some x3 ∧ V.cell? ⟨b, 0, none⟩ = some x4 ∧ V.cell? ⟨b, 1, none⟩ = some x5 ∧ V.cell? ⟨b, 2, none⟩ = some x6)) :
 W.cell? ⟨g, 1, none⟩ = some (.pointer (some ⟨d, 0, none⟩)) ∧ W.cell? ⟨g, 2, none⟩ = some x2 ∧ W.cell? ⟨g, 3, none⟩ = some x3 ∧ W.cell? ⟨b, 0, none⟩ = some x4 ∧ W.cell? ⟨b, 1, none⟩ = some x5 ∧ W.cell? ⟨b, 2, none⟩ = some x6 :=
 ⟨mod_cell k.out hn.out.1 h.out.1, mod_cell k.out hn.out.1 h.out.2.1, mod_cell k.out hn.out.1 h.out.2.2.1, mod_cell k.out hn.out.2 h.out.2.2.2.1, mod_cell k.out hn.out.2 h.out.2.2.2.2.1, mod_cell k.out hn.out.2 h.out.2.2.2.2.2⟩
def InsY (w : World) (g d : Nat) (r inc : Int) (F : Nat → Prop) (m' : DM) (s' : ShM) (w' : World) : Prop :=
 ∃ F', PDisk w' d F' m' ∧ (∀ k, k < w.heap.size → F' k → F k) ∧ ¬ F' g ∧ Mod (fun k => F k ∨ k = g) w w' ∧ ShAt w' g d r inc s'
theorem WY.ins {w w' : World} {g d : Nat} {r inc : Int} {F F' : Nat → Prop} {m : DM} {s : ShM} (h : WY w d F F' w' m) (hs : ShAt w g d r inc s) (hg : ¬ F g) : InsY w g d r inc F m s w' :=
 ⟨F', h.disk, h.sub, h.not_ hs.lt hg, h.mod.mono fun _ hi => .inl hi, hs.mod h.mod hg⟩
set_option maxHeartbeats 3200000 in
theorem yinstall_yes {w : World} {g d : Nat} {r inc : Int} {s : ShM} {F : Nat → Prop} {m : DM} (h : ShAt w g d r inc s) (hd : PDisk w d F m) (hg : ¬ F g) (hLM : ∀ V, Mod F w V → LaidY V) (hs : s = {} ∨ manOk s = true) (hr : 0 ≤ r ∧ r ≤ 6) (hc : 1 ≤ inc ∧ inc ≤ 1099511627776) (hsz : m.size = 156)
 (i : Nat) (hi : s.ix < i ∧ i ≤ 1099511627752) (A : Option Addr) (n c : Nat) (bs : List Nat) (hb : By w A n c bs) (hn : n ≤ 640) (hfew : m.waits.length ≤ 900000) :
 Calls Tryz.prog 26 #[.pointer (some ⟨g, 0, none⟩), .int .i64 (i : Int), .slice A n c] w fun e w' => e = .returned (.int .i64 (m.putY r inc (nextY s i (chunkN bs.length)) (splitL bs)).1) ∧ InsY w g d r inc F (m.putY r inc (nextY s i (chunkN bs.length)) (splitL bs)).2 (if (m.putY r inc (nextY s i (chunkN bs.length)) (splitL bs)).1 = 0 then nextY s i (chunkN bs.length) else s) w' := by
 have hok := nextY_ok hs hi (b := bs) (by rw [hb.len]; exact hn)
 have hlt := hb.rd.lt
 have hse : ∀ k c, k < 8 → c ∈ splitL bs → sealE r 5 ((8 * (nextY s i (chunkN bs.length)).ar + k : Nat) : Int) ((nextY s i (chunkN bs.length)).ix : Int) inc (prZL ((nextY s i (chunkN bs.length)).ct : Int) c).length 2 = 0 := fun k c hk hcm => sealY hr hc hok hk (split_each hlt c hcm).1
 have hsix : s.ix ≤ 1099511627776 := by omega
 have har : s.ar ≤ 1 := by
  rcases hs with rfl | hs
  ·exact Nat.zero_le _
  ·have := manOk_iff.1 hs; omega
 have hin : inI ((s.ix : Int) + 1) (i : Int) 1099511627752 = true := inI_iff.2 (by omega)
 have HSP := Lib.hid (zsplit_yes A n c bs hb hn)
 have hcn := chunkN_in (n := bs.length) (by rw [hb.len]; exact hn)
 have hex : ∀ l ∈ splitL bs, l.length ≤ 80 := fun l hl => (split_each hlt l hl).1
 have HW := Lib.hid (ywithin_of ((s.ix : Int) + 1) (i : Int) 1099511627752 w)
 rw [hin] at HW
 obtain ⟨c0, c1, c2, c3, c4, c5, c6⟩ := h.cells
 have HM := Lib.hid (ymade_yes g w c0)
 have hspl := splitL_len bs
 obtain ⟨ar2, har2⟩ : ∃ ar2, (if s.ix = 0 then 0 else 1 - s.ar) = ar2 := ⟨_, rfl⟩
 have har21 : ar2 ≤ 1 := by rw [← har2]; split <;> omega
 have hnx : nextY s i (chunkN bs.length) = ⟨i, ar2, chunkN bs.length⟩ := by unfold nextY; rw [har2]
 rw [hnx] at hok hse ⊢
 dsimp only at hse
 have hfa := yfree_of s.ix s.ar s.ct har
 rw [har2] at hfa
 have HFA := Lib.hid hfa
 have HOK := Lib.hid hok
 have HSE := Lib.hid hse
 have HD := Lib.hid hd
 have H := Lib.hid h
 have HG := Lib.hid hg
 have HLM := Lib.hid hLM
 have HK := Lib.hid (And.intro hr (And.intro hc hsz))
 have HFW := Lib.hid hfew
 have HEX := Lib.hid hex
 have HSL := Lib.hid hspl
 have HCN := Lib.hid hcn
 have HAR := Lib.hid har21
 obtain ⟨Z, hZ⟩ : ∃ Z, m.putY r inc ⟨i, ar2, chunkN bs.length⟩ (splitL bs) = Z := ⟨_, rfl⟩
 obtain ⟨s', hs'⟩ : ∃ s' : ShM, (if Z.1 = 0 then ⟨i, ar2, chunkN bs.length⟩ else s) = s' := ⟨_, rfl⟩
 rw [hZ, hs']
 have HZS := Lib.hid (And.intro hZ hs')
 clear hZ hs'
 generalize chunkN bs.length = cn at *
 clear h hd hg hLM hs hr hc hsz hb hfew hok hlt hse har hin hex hspl hcn har2 har21 hnx hfa c0 c1 c2 c3 c5 c6
 go_enter Tryz.func26, Tryz.ntmps26
 go_wp2_with fail
 refine HM.out.mono ?_
 rintro e w1 ⟨rfl, rfl⟩
 go_wp2_with fail
 refine HW.out.mono ?_
 rintro e w1 ⟨rfl, rfl⟩
 go_wp2_with fail
 refine HSP.out.mono ?_
 rintro e w1 ⟨v, L, rfl, hrow, hok, hl, hx⟩
 obtain ⟨A1, c1, rfl, hls⟩ := lsts_own hrow hok
 have hA1 : Off F A1 := fun p hp hf => by
  have h1 := (hrow.lt p.block (by rw [hp]; rfl)).1
  have h2 := HD.out.lt _ hf
  omega
 have hO1 : ∀ a ∈ L, Off F a.A := fun a ha p hp hf => by
  have h1 := ((hok a ha).2 p hp).1
  have h2 := HD.out.lt _ hf
  omega
 have hl2 : lsOf L = splitL bs := hl
 have hll : L.length = cn := by
  have := congrArg List.length hl
  rw [List.length_map] at this
  rw [this, HSL.out]
 have HLS := Lib.hid (And.intro hls (And.intro hA1 (And.intro hO1 hl2)))
 have HX1 := Lib.hid hx
 obtain ⟨d0, d1, d2, d3, d4, d5, d6⟩ := (H.out.ext hx).cells
 clear hrow hok hls hA1 hO1 hl hl2 hx c4 d0 d1 d2 d3
 rw [hll] at HLS ⊢
 go_wp2_with fail
 refine (HFA.out _).mono ?_
 rintro e w2 ⟨rfl, hx⟩
 have HX2 := Lib.hid (HX1.out.trans hx)
 have HX12 := Lib.hid hx
 clear hx d4 d5 d6
 have hput : m.putY r inc ⟨i, ar2, cn⟩ (splitL bs) = if (m.wrY r inc ⟨i, ar2, cn⟩ 0 (splitL bs)).1 ≠ 0 then m.wrY r inc ⟨i, ar2, cn⟩ 0 (splitL bs) else (m.wrY r inc ⟨i, ar2, cn⟩ 0 (splitL bs)).2.store r 2 inc (manL ⟨i, ar2, cn⟩) := rfl
 have hwsz := wrY_size m r inc ⟨i, ar2, cn⟩ 0 (splitL bs)
 have hwwt := wrY_waits m r inc ⟨i, ar2, cn⟩ 0 (splitL bs)
 have hwr : ∀ w3, Ext w2 w3 → Calls Tryz.prog 76 #[.pointer (some ⟨g, 0, none⟩), .agg #[.int .i64 (i : Int), .int .i64 (ar2 : Int), .int .i64 (cn : Int)], .int .i64 0, .slice A1 cn c1] w3 fun e w' => e = .returned (.int .i64 (m.wrY r inc ⟨i, ar2, cn⟩ 0 (splitL bs)).1) ∧ ∃ F', WY w3 d F F' w' (m.wrY r inc ⟨i, ar2, cn⟩ 0 (splitL bs)).2 := fun w3 h23 => by
  have hx3 := HX2.out.trans h23
  have hmem : ∀ a ∈ L, a.l ∈ splitL bs := fun a ha => by rw [← HLS.out.2.2.2]; exact List.mem_map_of_mem ha
  have := ywrite_of (H.out.ext hx3) (HD.out.ext hx3) HG.out (fun V hV => HLM.out V ((Mod.of_ext hx3).trans hV fun _ hi => .inl hi)) i ar2 cn HAR.out 0 A1 cn c1 L (HLS.out.1.ext (HX12.out.trans h23)) HLS.out.2.1 HLS.out.2.2.1 (by have := HCN.out; omega) (fun a ha => by have := HEX.out _ (hmem a ha); omega) (fun j a ha => by
   have hj : j < L.length := (List.getElem?_eq_some_iff.1 ha).1
   have h8 := HCN.out
   have := HSE.out j a.l (by omega) (hmem a (List.mem_of_getElem? ha))
   rw [Nat.zero_add]
   exact this) (by have := HFW.out; omega)
  rw [HLS.out.2.2.2] at this
  exact this
 have HWR := Lib.hid hwr
 have hspn := HSL.out
 rw [hspn] at hwwt
 have HWQ := Lib.hid (And.intro hwsz hwwt)
 have HPUT := Lib.hid hput
 clear hput hwsz hwwt hwr hspn
 generalize m.wrY r inc ⟨i, ar2, cn⟩ 0 (splitL bs) = X at *
 obtain ⟨E, m1⟩ := X
 go_wp2_with fail
 have hE3 := (Ext.refl w2).alloc (.cells #[.int .i64 (i : Int), .int .i64 (ar2 : Int), .int .i64 (cn : Int)] 137)
 have hz3 := heap_alloc_new w2 (.cells #[.int .i64 (i : Int), .int .i64 (ar2 : Int), .int .i64 (cn : Int)] 137)
 generalize w2.alloc (.cells #[.int .i64 (i : Int), .int .i64 (ar2 : Int), .int .i64 (cn : Int)] 137) = w3 at *
 obtain ⟨tb, htb⟩ : ∃ tb, w2.heap.size = tb := ⟨_, rfl⟩
 have htF : ¬ F tb := fun hf => by
  have h1 := HD.out.lt _ hf
  have h2 := HX2.out.size
  omega
 have htg : tb ≠ g := fun e => by
  have h1 := H.out.lt
  have h2 := HX2.out.size
  omega
 rw [htb] at hz3 ⊢
 have HX3 := Lib.hid (HX2.out.trans hE3)
 have HZ3 := Lib.hid (And.intro hz3 (And.intro (Array.getElem?_eq_some_iff.1 hz3).1 (And.intro htF htg)))
 have hwr := HWR.out w3 hE3
 clear hE3 hz3 htb htF htg
 refine hwr.mono ?_
 clear hwr
 rintro e w4 ⟨rfl, F', hW⟩
 have HW := Lib.hid hW
 clear hW
 by_cases h0 : E = 0
 ·subst h0
  have hrow := (HW.out.mod.block tb HZ3.out.2.1 HZ3.out.2.2.1).trans HZ3.out.1
  have hsh := ((H.out.ext HX3.out).mod HW.out.mod HG.out)
  obtain ⟨d0, d1, d2, d3, d4, d5, d6⟩ := hsh.cells
  have hS0 : w4.drew.cell? ⟨g, 1, none⟩ = some (.pointer (some ⟨d, 0, none⟩)) ∧ w4.drew.cell? ⟨g, 2, none⟩ = some (.int .i64 r) ∧ w4.drew.cell? ⟨g, 3, none⟩ = some (.int .i64 inc) ∧ w4.drew.cell? ⟨tb, 0, none⟩ = some (.int .i64 (i : Int)) ∧ w4.drew.cell? ⟨tb, 1, none⟩ = some (.int .i64 (ar2 : Int)) ∧ w4.drew.cell? ⟨tb, 2, none⟩ = some (.int .i64 (cn : Int)) := ⟨d1, d2, d3, cell_of_row w4 tb 0 _ _ _ hrow, cell_of_row w4 tb 1 _ _ _ hrow, cell_of_row w4 tb 2 _ _ _ hrow⟩
  have HC0 : Hid (w4.cell? ⟨g, 1, none⟩ = some (.pointer (some ⟨d, 0, none⟩)) ∧ w4.cell? ⟨g, 2, none⟩ = some (.int .i64 r) ∧ w4.cell? ⟨g, 3, none⟩ = some (.int .i64 inc) ∧ w4.cell? ⟨tb, 0, none⟩ = some (.int .i64 (i : Int)) ∧ w4.cell? ⟨tb, 1, none⟩ = some (.int .i64 (ar2 : Int)) ∧ w4.cell? ⟨tb, 2, none⟩ = some (.int .i64 (cn : Int))) := Lib.hid hS0
  have HNG : Hid (¬ F' g ∧ ¬ F' tb) := Lib.hid ⟨HW.out.not_ (Nat.lt_of_lt_of_le H.out.lt HX3.out.size) HG.out, HW.out.not_ HZ3.out.2.1 HZ3.out.2.2.1⟩
  have HLV : Hid (∀ V, Mod F' w4 V → LaidY V) := Lib.hid fun V hV => HLM.out V ((Mod.of_ext HX3.out).trans (HW.out.mod.trans hV fun k hk => by
   by_cases hlt : k < w3.heap.size
   ·exact .inl (HW.out.sub k hlt hk)
   ·exact .inr (by omega)) fun _ hi => .inl hi)
  have HPR : Hid (∀ V, Hid (Ext w4.drew V) → Calls Tryz.prog 78 #[.agg #[.int .i64 (i : Int), .int .i64 (ar2 : Int), .int .i64 (cn : Int)]] V fun e w' => ∃ A' c', e = .returned (.slice A' 8 c') ∧ By w' A' 8 c' (manL ⟨i, ar2, cn⟩) ∧ (∀ g o, A' = some ⟨g, o, none⟩ → V.heap.size ≤ g) ∧ Ext V w') := Lib.hid fun V hV => yprint_own ⟨i, ar2, cn⟩ V (HLV.out V (Mod.of_ext ((Below.drew (Ext.refl w4)).trans hV.out))) HOK.out
  have hst : ∀ V (A' : Option Addr) (c' : Nat), Hid (Ext w4.drew V) → By V A' 8 c' (manL ⟨i, ar2, cn⟩) → (∀ g o, A' = some ⟨g, o, none⟩ → w4.heap.size ≤ g) → Calls Tryz.prog 77 #[.pointer (some ⟨d, 0, none⟩), .int .i64 r, .int .i64 2, .int .i64 inc, .slice A' 8 c'] V fun e w' => e = .returned (.int .i64 (m1.store r 2 inc (manL ⟨i, ar2, cn⟩)).1) ∧ Step d F' V (m1.store r 2 inc (manL ⟨i, ar2, cn⟩)).2 w' := fun V A' c' hV hby hfr => by
   have hx : Ext w4 V := (Below.drew (Ext.refl w4)).trans hV.out
   have hl : ∀ U, Mod F' V U → LaidF U := fun U hU => (HLV.out U ((Mod.of_ext hx).trans hU fun _ hi => .inl hi)).f
   refine Store_of (HW.out.disk.ext hx) (hl V (Mod.refl _ _)) hl r 2 inc A' 8 c' (manL ⟨i, ar2, cn⟩) hby (fun gg o hA _ hf => ?_) (by
    have h1 := HWQ.out.2
    have h2 := HFW.out
    have h3 := HCN.out
    omega) (knownY HK.out.1 (HWQ.out.1.trans HK.out.2.2))
   have h1 := hfr gg o hA
   have h2 := HW.out.disk.lt _ hf
   omega
  have HST := Lib.hid hst
  generalize m1.store r 2 inc (manL ⟨i, ar2, cn⟩) = R at *
  obtain ⟨E2, m2⟩ := R
  dsimp only at HST
  clear hst hrow hsh d0 d1 d2 d3 d4 d5 d6
  go_wp2_with fail
  go_region_held3 (fun w' => w'.cell? ⟨g, 1, none⟩ = some (.pointer (some ⟨d, 0, none⟩)) ∧ w'.cell? ⟨g, 2, none⟩ = some (.int .i64 r) ∧ w'.cell? ⟨g, 3, none⟩ = some (.int .i64 inc) ∧ w'.cell? ⟨tb, 0, none⟩ = some (.int .i64 (i : Int)) ∧ w'.cell? ⟨tb, 1, none⟩ = some (.int .i64 (ar2 : Int)) ∧ w'.cell? ⟨tb, 2, none⟩ = some (.int .i64 (cn : Int)))
   (first | with_reducible exact hS0 | exact keepIn (by assumption) HC0 | exact hS5)
   (first
    | (go_at_call 78; ((with_reducible refine (HPR.out _ (Lib.hid (Ext.refl w4.drew))).mono ?_); rintro e w5 ⟨A5, c5, rfl, hby, hfr, hx⟩; have HXk : Hid (Ext w4.drew w5) := Lib.hid hx; have HB5 := Lib.hid hby; have HF5 : Hid (∀ g o, A5 = some ⟨g, o, none⟩ → w4.heap.size ≤ g) := Lib.hid hfr; clear hx hby hfr))
    | (go_at_call 77; ((with_reducible refine (HST.out _ A5 c5 HXk HB5.out HF5.out).mono ?_); rintro e w6 ⟨rfl, hst6⟩; have HS6 := Lib.hid hst6; have hS5 := keepInM (Lib.hid hst6.2) HNG (Lib.hid (keepIn HXk HC0)); clear hst6)))
  have hx5 : Ext w4 w5 := (Below.drew (Ext.refl w4)).trans HXk.out
  have HW6 := Lib.hid ((HW.out.ext hx5).step HS6.out.1 HS6.out.2)
  have HNG6 : Hid (¬ grow F' w5 w6 g) := Lib.hid (HW6.out.not_ (Nat.lt_of_lt_of_le H.out.lt HX3.out.size) HG.out)
  have HS7 := Lib.hid ((H.out.ext HX3.out).mod HW6.out.mod HG.out)
  have HI3 : Hid ((Tryz.prog.info? 137).map (·.size) = some 3) := Lib.hid (by kernel_rfl)
  by_cases h2 : E2 = 0
  ·subst h2
   have hq : Z = (0, m2) := by rw [← HZS.out.1, HPUT.out, if_neg (by simp)]
   have hs2 : s' = ⟨i, ar2, cn⟩ := by rw [← HZS.out.2, hq, if_pos rfl]
   have HQS := Lib.hid (And.intro hq hs2)
   clear hx5 hq hs2 hS0
   obtain ⟨_, _, _, b0, b1, b2⟩ := hS5
   go_wp2_with (refine wpList_store_mid rfl 137 _ _ rfl g 4 #[.int .i64 (i : Int), .int .i64 (ar2 : Int), .int .i64 (cn : Int)] ?hx ?hy ?ht ?hi ?h1 ?hh)
   case hx => rfl
   case hy => rfl
   case ht => exact there_row HS7.out.row 4 3 (by simp)
   case hi => exact HI3.out
   case h1 => simp [Value.oneCell']
   have hrw := row_setCells HS7.out.row 4 [.int .i64 (i : Int), .int .i64 (ar2 : Int), .int .i64 (cn : Int)]
   have hmd : Mod (fun k => k = g) w6 (w6.setCells g 4 [.int .i64 (i : Int), .int .i64 (ar2 : Int), .int .i64 (cn : Int)]) := (Mod.refl _ w6).setCells g 4 _ (.inl rfl)
   generalize w6.setCells g 4 [.int .i64 (i : Int), .int .i64 (ar2 : Int), .int .i64 (cn : Int)] = w7 at *
   have HRW := Lib.hid hrw
   have HMD := Lib.hid hmd
   clear hrw hmd b0 b1 b2
   go_wp2_with fail
   refine bodyPost_ret (v := .int .i64 0) (by simp [results, Tryz.results26, go_sem]) rfl ?_
   rw [HQS.out.1, HQS.out.2]
   have hwb := HW6.out.base HX3.out
   refine ⟨rfl, _, hwb.disk.mod HMD.out (fun k hk e => HNG6.out (e ▸ hk)), hwb.sub, HNG6.out, (hwb.mod.mono fun _ hi => .inl hi).trans HMD.out fun k hk => .inl (.inr hk), ⟨?_⟩⟩
   exact HRW.out
  ·have hne : (E2 != 0) = true := by simpa using h2
   have hq : Z = (E2, m2) := by rw [← HZS.out.1, HPUT.out, if_neg (by simp)]
   have hs2 : s' = s := by rw [← HZS.out.2, hq, if_neg h2]
   have HQS := Lib.hid (And.intro hq hs2)
   clear hq hs2 hx5 h2 hS0 hS5
   go_wp2_with fail
   refine bodyPost_ret (v := .int .i64 E2) (by simp [results, Tryz.results26, go_sem]) rfl ?_
   rw [HQS.out.1, HQS.out.2]
   exact ⟨rfl, (HW6.out.base HX3.out).ins H.out HG.out⟩
 ·have hne : (E != 0) = true := by simpa using h0
  have HNE := Lib.hid h0
  clear h0
  go_wp2_with fail
  refine bodyPost_ret (v := .int .i64 E) (by simp [results, Tryz.results26, go_sem]) rfl ?_
  have hq : Z = (E, m1) := by rw [← HZS.out.1, HPUT.out, if_pos HNE.out]
  have hs2 : s' = s := by rw [← HZS.out.2, hq, if_neg HNE.out]
  rw [hq, hs2]
  exact ⟨rfl, (HW.out.base HX3.out).ins H.out HG.out⟩
end
section
open Go Go.RowKit
def DM.mendY (m : DM) (r inc : Int) (s : ShM) (k : Int) (c : List Nat) : Int × DM := if fitsZ k s.ct c.length = true ∧ m.chB r s k.toNat = false then m.wrY r inc s k.toNat [c] else (2, m)
theorem lsts_one {w : World} {A : Option Addr} {n c : Nat} {l : List Nat} (hb : By w A n c l) : Lsts (w.alloc (.cells #[.slice A n c] 45)) (w.alloc (.cells #[.slice A n c] 45)).heap.size (some ⟨w.heap.size, 0, none⟩) 1 1 [⟨A, n, c, l⟩] := by
 have hx := (Ext.refl w).alloc (.cells #[.slice A n c] 45)
 refine ⟨rfl, Nat.le_refl _, by omega, fun a ha => ?_, fun _ => ⟨w.heap.size, 0, rfl, by simp, fun j a ha => ?_⟩, fun e => by cases e⟩
 ·obtain rfl : a = ⟨A, n, c, l⟩ := by simpa using ha
  exact hb.ext hx
 ·cases j with
  | zero =>
   obtain rfl : ⟨A, n, c, l⟩ = a := by simpa using ha
   exact cell_of_row _ w.heap.size 0 _ _ _ (heap_alloc_new w _)
  | succ j => simp at ha
set_option maxHeartbeats 1600000 in
theorem ymend_ofN {w : World} {g d : Nat} {r inc : Int} {s : ShM} {F : Nat → Prop} {m : DM} (h : ShAt w g d r inc s) (hd : PDisk w d F m) (hg : ¬ F g) (hLM : ∀ V, Mod F w V → LaidY V) (hs : s = {} ∨ manOk s = true) (hr : 0 ≤ r ∧ r ≤ 6) (hc : 1 ≤ inc ∧ inc ≤ 1099511627776)
 (k : Int) (A : Option Addr) (n c : Nat) (l : List Nat) (hb : By w A n c l) (hoff : 0 < n → Off F A) (hfew : m.waits.length ≤ 900000) :
 Calls Tryz.prog 28 #[.pointer (some ⟨g, 0, none⟩), .int .i64 k, .slice A n c] w fun e w' => e = .returned (.int .i64 (m.mendY r inc s k l).1) ∧ InsY w g d r inc F (m.mendY r inc s k l).2 s w' := by
 have hct8 : s.ct ≤ 8 ∧ s.ar ≤ 1 := by
  rcases hs with rfl | hs
  ·exact ⟨Nat.zero_le _, Nat.zero_le _⟩
  ·have := manOk_iff.1 hs; omega
 have hL := hLM w (Mod.refl _ w)
 have hlen := hb.len
 obtain ⟨c0, c1, c2, c3, c4, c5, c6⟩ := h.cells
 have HM := Lib.hid (ymade_yes g w c0)
 have hmb := ymay_of s.ix s.ar s.ct hct8.1 k A n c l w hb
 have stay : ∀ w', Ext w w' → InsY w g d r inc F m s w' := fun w' hx => (WY.start hd |>.ext hx).ins h hg
 have HST := Lib.hid stay
 by_cases hf : fitsZ k s.ct n = true
 ·have hq := fitsZ_iff.1 hf
  obtain ⟨j, rfl⟩ : ∃ j : Nat, k = (j : Int) := ⟨k.toNat, by omega⟩
  have hjc : j < s.ct := by omega
  have hih : ∀ V, Ext w V → Calls Tryz.prog 86 #[.pointer (some ⟨g, 0, none⟩), .int .i64 (j : Int)] V fun e w' => e = .returned (.bool (!m.chB r s j)) ∧ Ext V w' := fun V hV => yishurt_of (h.ext hV) (hd.ext hV) (hL.ext hV) hct8.1 hct8.2 j hjc (by omega)
  have hmo : manOk s = true := by
   rcases hs with rfl | hs
   ·exact absurd hjc (Nat.not_lt_zero _)
   ·exact hs
  have hse := sealY (k := j) (c := l) hr hc hmo (by omega) (by omega)
  rw [hf] at hmb
  have HMB := Lib.hid hmb
  cases hcb : m.chB r s j with
  | true =>
   rw [hcb, Bool.not_true] at hih
   have he : m.mendY r inc s (j : Int) l = (2, m) := by unfold DM.mendY; rw [if_neg (by rw [Int.toNat_natCast, hcb]; simp)]
   rw [he]
   have HIH := Lib.hid hih
   clear h hd hg hLM hs hr hc hb hoff hfew hct8 hL hlen hmb stay hf hq hih hmo hse hcb he c0 c1 c2 c3
   go_enter Tryz.func28, Tryz.ntmps28
   go_wp2_with fail
   refine HM.out.mono ?_
   rintro e w1 ⟨rfl, rfl⟩
   go_wp2_with fail
   refine HMB.out.mono ?_
   rintro e w1 ⟨rfl, hx⟩
   have HX1 := Lib.hid hx
   clear hx
   go_wp2_with fail
   refine (HIH.out _ HX1.out).mono ?_
   rintro e w2 ⟨rfl, hx⟩
   have HX2 := Lib.hid (HX1.out.trans hx)
   clear hx
   go_wp2_with fail
   go_ret
   exact ⟨rfl, HST.out _ HX2.out⟩
  | false =>
   rw [hcb, Bool.not_false] at hih
   have he : m.mendY r inc s (j : Int) l = m.wrY r inc s j [l] := by unfold DM.mendY; rw [if_pos ⟨by rw [hlen]; exact hf, by rw [Int.toNat_natCast]; exact hcb⟩, Int.toNat_natCast]
   rw [he]
   obtain ⟨ix, ar, ct⟩ := s
   dsimp only at hse c4 c5 c6 hct8 hjc
   have hwr : ∀ V, Ext w V → Calls Tryz.prog 76 #[.pointer (some ⟨g, 0, none⟩), .agg #[.int .i64 (ix : Int), .int .i64 (ar : Int), .int .i64 (ct : Int)], .int .i64 (j : Int), .slice (some ⟨V.heap.size, 0, none⟩) 1 1] (V.alloc (.cells #[.slice A n c] 45)) fun e w' => e = .returned (.int .i64 (m.wrY r inc ⟨ix, ar, ct⟩ j [l]).1) ∧ InsY w g d r inc F (m.wrY r inc ⟨ix, ar, ct⟩ j [l]).2 ⟨ix, ar, ct⟩ w' := fun V hV => by
    have hx : Ext w (V.alloc (.cells #[.slice A n c] 45)) := hV.alloc _
    have hnl : n ≤ 80 := hq.2.2.2.2.1
    refine (ywrite_ofN (h.ext hx) (hd.ext hx) hg (fun U hU => hLM U ((Mod.of_ext hx).trans hU fun _ hi => .inl hi)) ix ar ct hct8.2 j (some ⟨V.heap.size, 0, none⟩) 1 1 [⟨A, n, c, l⟩] (lsts_one (hb.ext hV)) (fun p hp hf => ?_) (fun a ha => ?_) (by omega) (fun a ha => ?_) (fun i a ha => ?_) (by omega)).mono ?_
    ·cases hp
     have h1 := hd.lt _ hf
     have h2 := hV.size
     dsimp only at h1
     omega
    ·obtain rfl : a = ⟨A, n, c, l⟩ := by simpa using ha
     exact hoff
    ·obtain rfl : a = ⟨A, n, c, l⟩ := by simpa using ha
     dsimp only
     omega
    ·cases i with
     | zero =>
      obtain rfl : ⟨A, n, c, l⟩ = a := by simpa using ha
      exact hse
     | succ i => simp at ha
    ·rintro e w' ⟨he, F', hw⟩
     exact ⟨he, (hw.base hx).ins h hg⟩
   have HIH := Lib.hid hih
   have HWR := Lib.hid hwr
   have H := Lib.hid h
   clear h hd hg hLM hs hr hc hb hoff hfew hct8 hL hlen hmb stay hf hq hih hmo hse hcb he c0 c1 c2 c3 hwr hjc
   go_enter Tryz.func28, Tryz.ntmps28
   go_wp2_with fail
   refine HM.out.mono ?_
   rintro e w1 ⟨rfl, rfl⟩
   go_wp2_with fail
   refine HMB.out.mono ?_
   rintro e w1 ⟨rfl, hx⟩
   have HX1 := Lib.hid hx
   clear hx
   go_wp2_with fail
   refine (HIH.out _ HX1.out).mono ?_
   rintro e w2 ⟨rfl, hx⟩
   have HX2 := Lib.hid (HX1.out.trans hx)
   obtain ⟨_, _, _, _, d4, d5, d6⟩ := (H.out.ext HX2.out).cells
   clear hx c4 c5 c6
   go_wp2_with fail
   refine (HWR.out w2 HX2.out).mono ?_
   rintro e w3 ⟨rfl, hi⟩
   have HI := Lib.hid hi
   clear hi
   go_wp2_with fail
   go_ret
   exact ⟨rfl, HI.out⟩
 ·have hff : fitsZ k s.ct n = false := by simpa using hf
  have he : m.mendY r inc s k l = (2, m) := by unfold DM.mendY; rw [if_neg (by rw [hlen, hff]; simp)]
  rw [he]
  rw [hff] at hmb
  have HMB := Lib.hid hmb
  clear h hd hg hLM hs hr hc hb hoff hfew hct8 hL hlen hmb stay hf hff he c0 c1 c2 c3
  go_enter Tryz.func28, Tryz.ntmps28
  go_wp2_with fail
  refine HM.out.mono ?_
  rintro e w1 ⟨rfl, rfl⟩
  go_wp2_with fail
  refine HMB.out.mono ?_
  rintro e w1 ⟨rfl, hx⟩
  have HX1 := Lib.hid hx
  clear hx
  go_wp2_with fail
  go_ret
  exact ⟨rfl, HST.out _ HX1.out⟩
end
section
open Go Go.RowKit
theorem chB_down {m : DM} (h : m.up = false) (r : Int) (s : ShM) (k : Nat) : m.chB r s k = false := by
 unfold DM.chB
 have : ∀ S, (m.read S).1 = [] := fun S => by unfold DM.read; rw [if_pos h]
 have hk : m.kb ((8 * s.ar + k : Nat) : Int) = [] := by unfold DM.kb pair2; rw [this, this]; simp
 rw [hk]
 exact okC_nil r s k
theorem wrs_down {m : DM} (h : m.up = false) (S : Int) (L : List Nat) : ∀ n, 0 < n → wrsE (0, m) S L n = (5, m)
 | 1, _ => by
  show unE (0, m) _ = _
  unfold unE
  rw [if_pos rfl]
  show m.write _ _ = _
  unfold DM.write
  rw [if_pos h]
 | n + 2, _ => by
  show unE (wrsE (0, m) S L (n + 1)) _ = _
  rw [wrs_down h S L (n + 1) (by omega)]
  rfl
theorem mend_down {m : DM} (h : m.up = false) {r inc : Int} {s : ShM} {k : Int} {c : List Nat} (hf : fitsZ k s.ct c.length = true) : m.mendY r inc s k c = (5, m) := by
 unfold DM.mendY
 rw [if_pos ⟨hf, chB_down h r s _⟩]
 unfold DM.wrY
 show unE (wrsE (0, m) _ _ 2) _ = _
 rw [wrs_down h _ _ 2 (by omega)]
 rfl
set_option maxHeartbeats 1600000 in
theorem rsmend_of {w : World} {y d : Nat} {r inc : Int} {s : ShM} {q : Nat → Nat} {m : DM} (h : RShAt w y d r inc s) (hd : RD w d q m) (hy : q y = 0) (hs : s = {} ∨ manOk s = true) (hr : 0 ≤ r ∧ r ≤ 6) (hc : 1 ≤ inc ∧ inc ≤ 1099511627776)
 (k : Int) (A : Option Addr) (n c : Nat) (l : List Nat) (hb : By w A n c l) (hfew : m.waits.length ≤ 900000) :
 Calls Tryz.prog 29 #[.pointer (some ⟨y, 0, none⟩), .int .i64 k, .slice A n c] w fun e w' => e = .returned (.int .i64 (m.mendY r inc s k l).1) ∧ ROut d q w (m.mendY r inc s k l).2 w' := by
 have hct8 : s.ct ≤ 8 ∧ s.ar ≤ 1 := by
  rcases hs with rfl | hs
  ·exact ⟨Nat.zero_le _, Nat.zero_le _⟩
  ·have := manOk_iff.1 hs; omega
 have hlen := hb.len
 obtain ⟨_, _, _, c3, c4, c5⟩ := h.cells
 have HDN := Lib.hid (rsdown_of h hd)
 have HFT := Lib.hid (zrfits_of k s.ct n w)
 have HST : Hid (ROut d q w m w) := Lib.hid (RQ.start hd).rout
 cases hf : fitsZ k s.ct n with
 | false =>
  have he : m.mendY r inc s k l = (2, m) := by unfold DM.mendY; rw [if_neg (by rw [hlen, hf]; simp)]
  rw [he]
  rw [hf] at HFT
  have hct : (s.ct : Int) ≤ 8 := by omega
  clear h hd hy hs hr hc hb hfew hlen hf he c3 c4 HDN
  generalize s.ct = ct at *
  by_cases hk0 : k < 0
  ·go_enter Tryz.func29, Tryz.ntmps29
   go_wp2_with fail
   go_ret
   exact ⟨rfl, HST.out⟩
  have hk0 : 0 ≤ k := by omega
  by_cases hk1 : k < (ct : Int)
  case neg =>
   have hk1 : (ct : Int) ≤ k := by omega
   go_enter Tryz.func29, Tryz.ntmps29
   go_wp2_with fail
   go_ret
   exact ⟨rfl, HST.out⟩
  go_enter Tryz.func29, Tryz.ntmps29
  go_wp2_with fail
  refine HFT.out.mono ?_
  rintro e w1 ⟨rfl, rfl⟩
  go_wp2_with fail
  go_ret
  exact ⟨rfl, HST.out⟩
 | true =>
  have hq := fitsZ_iff.1 hf
  obtain ⟨j, rfl⟩ : ∃ j : Nat, k = (j : Int) := ⟨k.toNat, by omega⟩
  have hjc : j < s.ct := by omega
  have hk0 : (0 : Int) ≤ (j : Int) := by omega
  have hk1 : (j : Int) < (s.ct : Int) := by omega
  have hmo : manOk s = true := by
   rcases hs with rfl | hs
   ·exact absurd hjc (Nat.not_lt_zero _)
   ·exact hs
  have hse := sealY (k := j) (c := l) hr hc hmo (by omega) (by omega)
  have hrd := rsread_of h hd hct8.1 hct8.2 j hjc (by omega)
  have hdn := mend_down (m := m) (r := r) (inc := inc) (s := s) (k := (j : Int)) (c := l)
  rw [hf] at HFT
  have H := Lib.hid h
  have HD := Lib.hid hd
  have HY := Lib.hid hy
  cases hup : m.up with
  | false =>
   rw [hdn hup (by rw [hlen]; exact hf)]
   rw [hup] at HDN
   clear h hd hy hs hr hc hb hfew hlen hf hq hjc hmo hse hrd hdn hup
   go_enter Tryz.func29, Tryz.ntmps29
   go_wp2_with fail
   refine HFT.out.mono ?_
   rintro e w1 ⟨rfl, rfl⟩
   go_wp2_with fail
   refine HDN.out.mono ?_
   rintro e w1 ⟨rfl, rfl⟩
   go_wp2_with fail
   go_ret
   exact ⟨rfl, HST.out⟩
  | true =>
   rw [hup] at HDN
   unfold RReadY at hrd
   cases hcb : m.chB r s j with
   | true =>
    rw [hcb] at hrd
    have he : m.mendY r inc s (j : Int) l = (2, m) := by unfold DM.mendY; rw [if_neg (by rw [Int.toNat_natCast, hcb]; simp)]
    rw [he]
    have HRD := Lib.hid hrd
    clear h hd hy hs hr hc hb hfew hlen hf hq hjc hmo hse hrd hdn hup hcb he
    go_enter Tryz.func29, Tryz.ntmps29
    go_wp2_with fail
    refine HFT.out.mono ?_
    rintro e w1 ⟨rfl, rfl⟩
    go_wp2_with fail
    refine HDN.out.mono ?_
    rintro e w1 ⟨rfl, rfl⟩
    go_wp2_with fail
    refine HRD.out.mono ?_
    rintro e w2 ⟨A2, n2, c2, rfl, _, hx⟩
    have HX := Lib.hid hx
    clear hx
    go_wp2_with fail
    go_ret
    exact ⟨rfl, ((RQ.start HD.out).ext HX.out).rout⟩
   | false =>
    rw [hcb] at hrd
    have he : m.mendY r inc s (j : Int) l = unE (wrsE (0, m) (firstS 5 ((8 * s.ar + j : Nat) : Int)) (frmY r inc s j l) 2) DM.flush := by
     unfold DM.mendY
     rw [if_pos ⟨by rw [hlen]; exact hf, by rw [Int.toNat_natCast]; exact hcb⟩, Int.toNat_natCast]
     rfl
    rw [he]
    have hpt := fun (V : World) (hV : Ext w V) => rsput_of (h.ext hV) (hd.ext hV) hy s.ix s.ar s.ct j hct8.2 (by omega) A n c l (hb.ext hV) (by omega) hse (by omega)
    have hwt := wrs_waits (m := m) (E := 0) (S := firstS 5 ((8 * s.ar + j : Nat) : Int)) (L := frmY r inc s j l) 2
    have HRD := Lib.hid hrd
    have hpt2 : ∀ (V : World), Ext w V → Calls Tryz.prog 81 #[.pointer (some ⟨y, 0, none⟩), .int .i64 (s.ix : Int), .int .i64 (s.ar : Int), .int .i64 (s.ct : Int), .int .i64 (j : Int), .slice A n c] V fun e w' =>
     e = .returned (.int .i64 (wrsE (0, m) (firstS 5 ((8 * s.ar + j : Nat) : Int)) (frmY r inc s j l) 2).1) ∧ ROut d q V (wrsE (0, m) (firstS 5 ((8 * s.ar + j : Nat) : Int)) (frmY r inc s j l) 2).2 w' := hpt
    generalize wrsE (0, m) (firstS 5 ((8 * s.ar + j : Nat) : Int)) (frmY r inc s j l) 2 = X at *
    obtain ⟨E, m1⟩ := X
    have HPT := Lib.hid hpt2
    have HWT : Hid (m1.waits.length ≤ 1000000) := Lib.hid (by dsimp only at hwt; omega)
    clear h hd hy hs hr hc hb hfew hlen hf hq hjc hmo hse hrd hdn hup hcb he hpt hpt2 hwt
    go_enter Tryz.func29, Tryz.ntmps29
    go_wp2_with fail
    refine HFT.out.mono ?_
    rintro e w1 ⟨rfl, rfl⟩
    go_wp2_with fail
    refine HDN.out.mono ?_
    rintro e w1 ⟨rfl, rfl⟩
    go_wp2_with fail
    refine HRD.out.mono ?_
    rintro e w2 ⟨A2, n2, c2, rfl, _, hx⟩
    have HX : Hid (Ext w w2.drew) := Lib.hid hx.drew
    have hcs := (H.out.ext HX.out).cells
    have hS0 : w2.drew.cell? ⟨y, 3, none⟩ = some (.int .i64 (s.ix : Int)) ∧ w2.drew.cell? ⟨y, 4, none⟩ = some (.int .i64 (s.ar : Int)) ∧ w2.drew.cell? ⟨y, 5, none⟩ = some (.int .i64 (s.ct : Int)) := ⟨hcs.2.2.2.1, hcs.2.2.2.2.1, hcs.2.2.2.2.2⟩
    clear hx hcs c3 c4 c5
    go_wp2_with fail
    go_region_held3 (fun w' => w'.cell? ⟨y, 3, none⟩ = some (.int .i64 (s.ix : Int)) ∧ w'.cell? ⟨y, 4, none⟩ = some (.int .i64 (s.ar : Int)) ∧ w'.cell? ⟨y, 5, none⟩ = some (.int .i64 (s.ct : Int)))
     (first | with_reducible exact hS0 | exact hS5)
     (first
      | (go_at_call 81; ((with_reducible refine (HPT.out _ HX.out).mono ?_); rintro e w8 ⟨rfl, hs8⟩; obtain ⟨q2, HR8, HSUB, HM8⟩ := ((RQ.start HD.out).ext HX.out).out hs8; have hS5 : w8.cell? ⟨y, 3, none⟩ = some (.int .i64 (s.ix : Int)) ∧ w8.cell? ⟨y, 4, none⟩ = some (.int .i64 (s.ar : Int)) ∧ w8.cell? ⟨y, 5, none⟩ = some (.int .i64 (s.ct : Int)) := ⟨mod_cell HM8 (fun e => e HY.out) hS0.1, mod_cell HM8 (fun e => e HY.out) hS0.2.1, mod_cell HM8 (fun e => e HY.out) hS0.2.2⟩; have HK8 := Lib.hid (And.intro HR8 (And.intro HSUB HM8)); clear hs8 HR8 HSUB HM8)))
    have c0 : w8.cell? ⟨y, 0, none⟩ = some (.pointer (some ⟨d, 0, none⟩)) := mod_cell HK8.out.2.2 (fun e => e HY.out) (H.out.ext HX.out).cells.1
    by_cases h0 : E = 0
    ·subst h0
     go_wp2_with fail
     refine (rflush_out HK8.out.1.rd HWT.out).mono ?_
     rintro e w9 ⟨rfl, hs9⟩
     obtain ⟨q3, HR9, _⟩ := HK8.out.1.out hs9
     have HR9 := Lib.hid HR9
     clear hs9
     go_wp2_with fail
     go_ret
     exact ⟨by unfold unE; rw [if_pos rfl]; rfl, by unfold unE; rw [if_pos rfl]; exact HR9.out.rout⟩
    ·have hne : (E != 0) = true := by simpa using h0
     have HNE := Lib.hid h0
     clear h0
     go_wp2_with fail
     go_ret
     exact ⟨by unfold unE; rw [if_neg HNE.out]; rfl, by unfold unE; rw [if_neg HNE.out]; exact HK8.out.1.rout⟩
end
section
open Go Go.RowKit
section
variable {w0 w : World} {d : Nat} {F : Nat → Prop} {m : DM}
theorem DK.byIn (h : DK w0 w d F m) {A : Option Addr} {n c : Nat} {l : List Nat} (hb : Bs w0 w0.heap.size A n c l) : By w A n c l := (hb.below h.bel).more h.bel.size
end
end
section
open Go Go.RowKit
section
variable {w : World} {d : Nat} {F : Nat → Prop} {p : Nat → Nat} {m : DM}
end
end
end Go.Proofs.YtmpaocpgoihliaaGreatDoor

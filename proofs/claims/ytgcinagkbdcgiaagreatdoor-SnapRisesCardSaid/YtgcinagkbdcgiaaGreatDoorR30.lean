/-
  The contract of slot's Print, with that its body lies in memory of the call's own.
-/
import Derived.Test.YtgcinagkbdcgiaaGreatDoorR00
import Derived.Test.YtgcinagkbdcgiaaGreatDoorR06
import Derived.Test.YtgcinagkbdcgiaaGreatDoorR07
import Derived.Test.YtgcinagkbdcgiaaGreatDoorR11
import Derived.Test.YtgcinagkbdcgiaaGreatDoorR13
import Derived.Test.YtgcinagkbdcgiaaGreatDoorR17
import Derived.Test.YtgcinagkbdcgiaaGreatDoorR18
import Derived.Test.YtgcinagkbdcgiaaGreatDoorR21
import Derived.Test.YtgcinagkbdcgiaaGreatDoorR22
import Derived.Test.YtgcinagkbdcgiaaGreatDoorR23
import Derived.Test.YtgcinagkbdcgiaaGreatDoorR25
import Derived.Test.YtgcinagkbdcgiaaGreatDoorR26
import Derived.Test.YtgcinagkbdcgiaaGreatDoorR27
import Derived.Test.YtgcinagkbdcgiaaGreatDoorR28
import Derived.Test.YtgcinagkbdcgiaaGreatDoorR29
import Derived.Deep.DeepCutAuto
namespace Go.Proofs.YtgcinagkbdcgiaaGreatDoor
set_option maxRecDepth 100000
section
open Go Go.RowKit
theorem sjoin3o {A1 A2 : Option Addr} {c1 c2 : Nat} {l1 l2 : List Nat} (w : World) (h1 : By w A1 7 c1 l1) (h2 : By w A2 1 c2 l2) :
    Calls Tryz.prog 133 #[.slice (some ⟨w.heap.size, 0, none⟩) 2 2] (w.alloc (.cells #[.slice A1 7 c1, .slice A2 1 c2] 45)) fun e w' => ∃ A' c', e = .returned (.slice A' 8 c') ∧ By w' A' 8 c' (l1 ++ l2) ∧ (∀ g o, A' = some ⟨g, o, none⟩ → w.heap.size ≤ g) ∧ Ext w w' := by
  have hcat : cat [(.slice A1 7 c1, l1), (.slice A2 1 c2, l2)] = l1 ++ l2 := by simp [cat]
  have hN : (cat [((.slice A1 7 c1 : Value), l1), (.slice A2 1 c2, l2)]).length = 8 := by rw [hcat, List.length_append, h1.len, h2.len]
  have hlt : ∀ b ∈ l1 ++ l2, b < 256 := by
    intro b hb
    rcases List.mem_append.1 hb with h | h
    · exact h1.rd.lt b h
    · exact h2.rd.lt b h
  have hp := parts_lit (w := w) (ps := [(.slice A1 7 c1, l1), (.slice A2 1 c2, l2)]) (m := 2) (cs := #[.slice A1 7 c1, .slice A2 1 c2]) (t := 45) rfl rfl (fun p hp => by
    simp only [List.mem_cons, List.not_mem_nil, or_false] at hp
    rcases hp with rfl | rfl
    · exact ⟨_, _, _, rfl, h1⟩
    · exact ⟨_, _, _, rfl, h2⟩)
  refine (join_any _ 2 2 _ _ hp (by omega) (by rw [hN]; omega)).mono ?_
  rintro e w' ⟨A', c', rfl, hown, hx⟩
  rw [hN, hcat] at hown
  refine ⟨A', c', by rw [hN], Bs.of_own hown hlt, fun g o hA => ?_, ((Ext.refl w).alloc _).trans hx⟩
  have := (hown.lt g (by rw [hA]; rfl)).1
  simp at this
  omega
end
section
open Go Go.RowKit
set_option maxHeartbeats 800000 in
theorem yprint_own (s : ShM) (w : World) (hL : LaidY w) (hs : manOk s = true) :
    Calls Tryz.prog 98 #[.agg #[.int .i64 (s.ix : Int), .int .i64 (s.ar : Int), .int .i64 (s.ct : Int)]] w fun e w' => ∃ A' c', e = .returned (.slice A' 8 c') ∧ By w' A' 8 c' (manL s) ∧ (∀ g o, A' = some ⟨g, o, none⟩ → w.heap.size ≤ g) ∧ Ext w w' := by
  obtain ⟨x, y, h⟩ := s
  have hrr := manOk_iff.1 hs
  dsimp only at hrr
  have hE := (Ext.refl w).alloc (.cells #[.int .i64 (x : Int), .int .i64 (y : Int), .int .i64 (h : Int)] 158)
  have hrow := heap_alloc_new w (.cells #[.int .i64 (x : Int), .int .i64 (y : Int), .int .i64 (h : Int)] 158)
  have HB := Lib.hid (show x ≤ 1099511627776 ∧ y < 256 ∧ h < 256 by omega)
  have HL := Lib.hid (hL.ext hE)
  have HR := Lib.hid hrow
  have HE := Lib.hid hE
  have i0 := fun w => (idx_three (x : Int) (y : Int) (h : Int) w).1
  have i1 := fun w => (idx_three (x : Int) (y : Int) (h : Int) w).2.1
  have i2 := fun w => (idx_three (x : Int) (y : Int) (h : Int) w).2.2
  have HRL : Hid (manL ⟨x, y, h⟩ = digs 6 x ++ [y] ++ [h]) := Lib.hid (by unfold manL; rw [digs_byte (n := y) (by omega), digs_byte (n := h) (by omega)])
  clear hrr hs hE hL hrow
  go_enter Tryz.func98, Tryz.ntmps98
  go_upto_region 1 with (fail)
  generalize (w.alloc (.cells #[.int .i64 (x : Int), .int .i64 (y : Int), .int .i64 (h : Int)] 158)) = w1 at *
  generalize hg : w.heap.size = g at *
  have HG := Lib.hid hg
  clear hg
  have b0 := cell_of_row w1 g 0 _ _ _ HR.out
  have b1 := cell_of_row w1 g 1 _ _ _ HR.out
  have b2 := cell_of_row w1 g 2 _ _ _ HR.out
  obtain ⟨t0, t1, t2⟩ := HL.out.t
  go_wp2_with fail
  refine wp_loop_rounds 4 ?_
  rw [rounds_succ]
  go_wp2_with fail
  refine (sput6 x _ HL.out.f.a.o HB.out.1).mono ?_
  rintro e w2 ⟨A1, c1, rfl, hb, hx⟩
  have HE := Lib.hid (HE.out.trans hx)
  have HL := Lib.hid (HL.out.ext hx)
  have HBy := Lib.hid hb
  clear hx hb b0 b1 b2 t0 t1 t2
  go_wp2_with fail
  refine (sjoin1 w2 (By.none_ w2) HBy.out).mono ?_
  rintro e w3 ⟨A2, c2, rfl, hb, hx⟩
  have HE := Lib.hid (HE.out.trans hx)
  have HL := Lib.hid (HL.out.ext hx)
  have HBy := Lib.hid hb
  clear hx hb
  obtain ⟨t0, t1, t2⟩ := HL.out.t
  go_wp2_with fail
  rw [rounds_succ]
  go_wp2_with fail
  refine (sput1 y _ HL.out.f.a.o HB.out.2.1).mono ?_
  rintro e w4 ⟨A3, c3, rfl, hb, hx⟩
  have HE := Lib.hid (HE.out.trans hx)
  have HL := Lib.hid (HL.out.ext hx)
  have HBy := Lib.hid (HBy.out.ext hx)
  have HB2 := Lib.hid hb
  clear hx hb t0 t1 t2
  go_wp2_with fail
  refine (sjoin2 w4 HBy.out HB2.out).mono ?_
  rintro e w5 ⟨A4, c4, rfl, hb, hx⟩
  have HE := Lib.hid (HE.out.trans hx)
  have HL := Lib.hid (HL.out.ext hx)
  have HBy := Lib.hid hb
  clear hx hb HB2
  obtain ⟨t0, t1, t2⟩ := HL.out.t
  go_wp2_with fail
  rw [rounds_succ]
  go_wp2_with fail
  refine (sput1 h _ HL.out.f.a.o HB.out.2.2).mono ?_
  rintro e w6 ⟨A5, c5, rfl, hb, hx⟩
  have HE := Lib.hid (HE.out.trans hx)
  have HL := Lib.hid (HL.out.ext hx)
  have HBy := Lib.hid (HBy.out.ext hx)
  have HB2 := Lib.hid hb
  clear hx hb t0 t1 t2
  go_wp2_with fail
  refine (sjoin3o w6 HBy.out HB2.out).mono ?_
  rintro e w7 ⟨A6, c6, rfl, hb, hfr, hx⟩
  have HFR : Hid (∀ g o, A6 = some ⟨g, o, none⟩ → w.heap.size ≤ g) := Lib.hid fun g o hA => Nat.le_trans HE.out.size (hfr g o hA)
  clear hfr
  have HE := Lib.hid (HE.out.trans hx)
  have HBy := Lib.hid hb
  clear hx hb HB2
  go_wp2_with fail
  rw [rounds_succ]
  go_wp2_with fail
  go_ret
  exact ⟨A6, c6, rfl, HRL.out ▸ HBy.out, HFR.out, HE.out⟩
end
section
open Go Go.RowKit
set_option maxHeartbeats 800000 in
theorem yinstall_arg {w : World} {g d : Nat} {r inc : Int} {s : ShM} (h : ShAt w g d r inc s) (hx : s.ix ≤ 1099511627776) (i : Int) (hi : ¬ ((s.ix : Int) < i ∧ i ≤ 1099511627752)) (A : Option Addr) (n c : Nat) :
    Calls Tryz.prog 30 #[.pointer (some ⟨g, 0, none⟩), .int .i64 i, .slice A n c] w fun e w' => e = .returned (.int .i64 2) ∧ w = w' := by
  obtain ⟨c0, c1, c2, c3, c4, c5, c6⟩ := h.cells
  have HM := Lib.hid (ymade_yes g w c0)
  have hin : inI ((s.ix : Int) + 1) i 1099511627752 = false := by
    cases e : inI ((s.ix : Int) + 1) i 1099511627752 with
    | false => rfl
    | true => exact absurd (inI_iff.1 e) (by omega)
  have HW := Lib.hid (ywithin_of ((s.ix : Int) + 1) i 1099511627752 w)
  rw [hin] at HW
  clear h hi hin c0 c1 c2 c3 c5 c6
  go_enter Tryz.func30, Tryz.ntmps30
  go_wp2_with fail
  refine HM.out.mono ?_
  rintro e w1 ⟨rfl, rfl⟩
  go_wp2_with fail
  refine HW.out.mono ?_
  rintro e w1 ⟨rfl, rfl⟩
  go_wp2_with fail
  go_ret
  exact ⟨rfl, rfl⟩
set_option maxHeartbeats 800000 in
theorem yinstall_long {w : World} {g d : Nat} {r inc : Int} {s : ShM} (h : ShAt w g d r inc s) (hx : s.ix ≤ 1099511627776) (i : Int) (hi : (s.ix : Int) < i ∧ i ≤ 1099511627752) (A : Option Addr) (n c : Nat) (hn : 640 < n) :
    Calls Tryz.prog 30 #[.pointer (some ⟨g, 0, none⟩), .int .i64 i, .slice A n c] w fun e w' => e = .returned (.int .i64 3) ∧ Ext w w' := by
  obtain ⟨c0, c1, c2, c3, c4, c5, c6⟩ := h.cells
  have HM := Lib.hid (ymade_yes g w c0)
  have hin : inI ((s.ix : Int) + 1) i 1099511627752 = true := inI_iff.2 (by omega)
  have HW := Lib.hid (ywithin_of ((s.ix : Int) + 1) i 1099511627752 w)
  have HS := Lib.hid (zsplit_no A n c hn)
  rw [hin] at HW
  clear h hi hin hn c0 c1 c2 c3 c5 c6
  go_enter Tryz.func30, Tryz.ntmps30
  go_wp2_with fail
  refine HM.out.mono ?_
  rintro e w1 ⟨rfl, rfl⟩
  go_wp2_with fail
  refine HW.out.mono ?_
  rintro e w1 ⟨rfl, rfl⟩
  go_wp2_with fail
  refine (HS.out _).mono ?_
  rintro e w1 ⟨rfl, hx⟩
  have HX := Lib.hid hx
  clear hx
  go_wp2_with fail
  go_ret
  exact ⟨rfl, HX.out⟩
theorem wrs_size {m : DM} {E S : Int} {L : List Nat} : ∀ k, (wrsE (E, m) S L k).2.size = m.size
  | 0 => rfl
  | k + 1 => by
    have ih := wrs_size (m := m) (E := E) (S := S) (L := L) k
    show (unE (wrsE (E, m) S L k) _).2.size = _
    unfold unE
    split
    · rw [write_size]; exact ih
    · exact ih
theorem wrsY_size {r inc : Int} {s : ShM} : ∀ (l : List (List Nat)) (x : Int × DM) (k : Nat), (wrsY r inc s x k l).2.size = x.2.size
  | [], x, k => rfl
  | c :: l, x, k => by
    show (wrsY r inc s _ (k + 1) l).2.size = _
    obtain ⟨E, m⟩ := x
    rw [wrsY_size l, wrs_size]
theorem wrY_size (m : DM) (r inc : Int) (s : ShM) (k : Nat) (l : List (List Nat)) : (m.wrY r inc s k l).2.size = m.size := by
  unfold DM.wrY unE
  split
  · rw [flush_size, wrsY_size]
  · rw [wrsY_size]
theorem flush_waits (m : DM) : m.flush.2.waits.length ≤ m.waits.length := by
  unfold DM.flush
  split
  · simp
  · split <;> simp
theorem wrY_waits (m : DM) (r inc : Int) (s : ShM) (k : Nat) (l : List (List Nat)) : (m.wrY r inc s k l).2.waits.length ≤ m.waits.length + 2 * l.length := by
  have h := wrsY_waits (r := r) (inc := inc) (s := s) l (0, m) k
  unfold DM.wrY unE
  split
  · exact Nat.le_trans (flush_waits _) h
  · exact h
theorem knownY {sz : Nat} {r : Int} (hr : 0 ≤ r ∧ r ≤ 6) (h : sz = 156) : knownC sz r 2 = 0 := by
  unfold knownC
  rw [if_neg (by omega), if_neg (by omega)]
theorem keepIn {V W : World} {g b d : Nat} {x2 x3 x4 x5 x6 : Value} (k : Hid (Ext V.drew W)) (h : Hid (V.cell? ⟨g, 1, none⟩ = some (.pointer (some ⟨d, 0, none⟩)) ∧ V.cell? ⟨g, 2, none⟩ = some x2 ∧ V.cell? ⟨g, 3, none⟩ = some x3 ∧ V.cell? ⟨b, 0, none⟩ = some x4 ∧ V.cell? ⟨b, 1, none⟩ = some x5 ∧ V.cell? ⟨b, 2, none⟩ = some x6)) :
    W.cell? ⟨g, 1, none⟩ = some (.pointer (some ⟨d, 0, none⟩)) ∧ W.cell? ⟨g, 2, none⟩ = some x2 ∧ W.cell? ⟨g, 3, none⟩ = some x3 ∧ W.cell? ⟨b, 0, none⟩ = some x4 ∧ W.cell? ⟨b, 1, none⟩ = some x5 ∧ W.cell? ⟨b, 2, none⟩ = some x6 :=
  have hx : Ext V W := (Below.drew (Ext.refl V)).trans k.out
  ⟨ext_of_cell hx h.out.1, ext_of_cell hx h.out.2.1, ext_of_cell hx h.out.2.2.1, ext_of_cell hx h.out.2.2.2.1, ext_of_cell hx h.out.2.2.2.2.1, ext_of_cell hx h.out.2.2.2.2.2⟩
theorem keepInM {V W : World} {F : Nat → Prop} {g b d : Nat} {x2 x3 x4 x5 x6 : Value} (k : Hid (Mod F V W)) (hn : Hid (¬ F g ∧ ¬ F b)) (h : Hid (V.cell? ⟨g, 1, none⟩ = some (.pointer (some ⟨d, 0, none⟩)) ∧ V.cell? ⟨g, 2, none⟩ = some x2 ∧ V.cell? ⟨g, 3, none⟩ = some x3 ∧ V.cell? ⟨b, 0, none⟩ = some x4 ∧ V.cell? ⟨b, 1, none⟩ = some x5 ∧ V.cell? ⟨b, 2, none⟩ = some x6)) :
    W.cell? ⟨g, 1, none⟩ = some (.pointer (some ⟨d, 0, none⟩)) ∧ W.cell? ⟨g, 2, none⟩ = some x2 ∧ W.cell? ⟨g, 3, none⟩ = some x3 ∧ W.cell? ⟨b, 0, none⟩ = some x4 ∧ W.cell? ⟨b, 1, none⟩ = some x5 ∧ W.cell? ⟨b, 2, none⟩ = some x6 :=
  ⟨mod_cell k.out hn.out.1 h.out.1, mod_cell k.out hn.out.1 h.out.2.1, mod_cell k.out hn.out.1 h.out.2.2.1, mod_cell k.out hn.out.2 h.out.2.2.2.1, mod_cell k.out hn.out.2 h.out.2.2.2.2.1, mod_cell k.out hn.out.2 h.out.2.2.2.2.2⟩
def InsY (w : World) (g d : Nat) (r inc : Int) (F : Nat → Prop) (m' : DM) (s' : ShM) (w' : World) : Prop :=
  ∃ F', PDisk w' d F' m' ∧ (∀ k, k < w.heap.size → F' k → F k) ∧ ¬ F' g ∧ Mod (fun k => F k ∨ k = g) w w' ∧ ShAt w' g d r inc s'
theorem WY.ins {w w' : World} {g d : Nat} {r inc : Int} {F F' : Nat → Prop} {m : DM} {s : ShM} (h : WY w d F F' w' m) (hs : ShAt w g d r inc s) (hg : ¬ F g) : InsY w g d r inc F m s w' :=
  ⟨F', h.disk, h.sub, h.not_ hs.lt hg, h.mod.mono fun _ hi => .inl hi, hs.mod h.mod hg⟩
set_option maxHeartbeats 3200000 in
theorem yinstall_yes {w : World} {g d : Nat} {r inc : Int} {s : ShM} {F : Nat → Prop} {m : DM} (h : ShAt w g d r inc s) (hd : PDisk w d F m) (hg : ¬ F g) (hLM : ∀ V, Mod F w V → LaidY V) (hs : s = {} ∨ manOk s = true) (hr : 0 ≤ r ∧ r ≤ 6) (hc : 1 ≤ inc ∧ inc ≤ 1099511627776) (hsz : m.size = 156)
    (i : Nat) (hi : s.ix < i ∧ i ≤ 1099511627752) (A : Option Addr) (n c : Nat) (bs : List Nat) (hb : By w A n c bs) (hn : n ≤ 640) (hfew : m.waits.length ≤ 900000) :
    Calls Tryz.prog 30 #[.pointer (some ⟨g, 0, none⟩), .int .i64 (i : Int), .slice A n c] w fun e w' => e = .returned (.int .i64 (m.putY r inc (nextY s i (chunkN bs.length)) (splitL bs)).1) ∧ InsY w g d r inc F (m.putY r inc (nextY s i (chunkN bs.length)) (splitL bs)).2 (if (m.putY r inc (nextY s i (chunkN bs.length)) (splitL bs)).1 = 0 then nextY s i (chunkN bs.length) else s) w' := by
  have hok := nextY_ok hs hi (b := bs) (by rw [hb.len]; exact hn)
  have hlt := hb.rd.lt
  have hse : ∀ k c, k < 8 → c ∈ splitL bs → sealE r 5 ((8 * (nextY s i (chunkN bs.length)).ar + k : Nat) : Int) ((nextY s i (chunkN bs.length)).ix : Int) inc (prZL ((nextY s i (chunkN bs.length)).ct : Int) c).length 2 = 0 := fun k c hk hcm => sealY hr hc hok hk (split_each hlt c hcm).1
  have hsix : s.ix ≤ 1099511627776 := by omega
  have har : s.ar ≤ 1 := by
    rcases hs with rfl | hs
    · exact Nat.zero_le _
    · have := manOk_iff.1 hs; omega
  have hin : inI ((s.ix : Int) + 1) (i : Int) 1099511627752 = true := inI_iff.2 (by omega)
  have HSP := Lib.hid (zsplit_yes A n c bs hb hn)
  have hcn := chunkN_in (n := bs.length) (by rw [hb.len]; exact hn)
  have hex : ∀ l ∈ splitL bs, l.length ≤ 80 := fun l hl => (split_each hlt l hl).1
  have HW := Lib.hid (ywithin_of ((s.ix : Int) + 1) (i : Int) 1099511627752 w)
  rw [hin] at HW
  obtain ⟨c0, c1, c2, c3, c4, c5, c6⟩ := h.cells
  have HM := Lib.hid (ymade_yes g w c0)
  have hspl := splitL_len bs
  obtain ⟨ar2, har2⟩ : ∃ ar2, (if s.ix = 0 then 0 else 1 - s.ar) = ar2 := ⟨_, rfl⟩
  have har21 : ar2 ≤ 1 := by rw [← har2]; split <;> omega
  have hnx : nextY s i (chunkN bs.length) = ⟨i, ar2, chunkN bs.length⟩ := by unfold nextY; rw [har2]
  rw [hnx] at hok hse ⊢
  dsimp only at hse
  have hfa := yfree_of s.ix s.ar s.ct har
  rw [har2] at hfa
  have HFA := Lib.hid hfa
  have HOK := Lib.hid hok
  have HSE := Lib.hid hse
  have HD := Lib.hid hd
  have H := Lib.hid h
  have HG := Lib.hid hg
  have HLM := Lib.hid hLM
  have HK := Lib.hid (And.intro hr (And.intro hc hsz))
  have HFW := Lib.hid hfew
  have HEX := Lib.hid hex
  have HSL := Lib.hid hspl
  have HCN := Lib.hid hcn
  have HAR := Lib.hid har21
  obtain ⟨Z, hZ⟩ : ∃ Z, m.putY r inc ⟨i, ar2, chunkN bs.length⟩ (splitL bs) = Z := ⟨_, rfl⟩
  obtain ⟨s', hs'⟩ : ∃ s' : ShM, (if Z.1 = 0 then ⟨i, ar2, chunkN bs.length⟩ else s) = s' := ⟨_, rfl⟩
  rw [hZ, hs']
  have HZS := Lib.hid (And.intro hZ hs')
  clear hZ hs'
  generalize chunkN bs.length = cn at *
  clear h hd hg hLM hs hr hc hsz hb hfew hok hlt hse har hin hex hspl hcn har2 har21 hnx hfa c0 c1 c2 c3 c5 c6
  go_enter Tryz.func30, Tryz.ntmps30
  go_wp2_with fail
  refine HM.out.mono ?_
  rintro e w1 ⟨rfl, rfl⟩
  go_wp2_with fail
  refine HW.out.mono ?_
  rintro e w1 ⟨rfl, rfl⟩
  go_wp2_with fail
  refine HSP.out.mono ?_
  rintro e w1 ⟨v, L, rfl, hrow, hok, hl, hx⟩
  obtain ⟨A1, c1, rfl, hls⟩ := lsts_own hrow hok
  have hA1 : Off F A1 := fun p hp hf => by
    have h1 := (hrow.lt p.block (by rw [hp]; rfl)).1
    have h2 := HD.out.lt _ hf
    omega
  have hO1 : ∀ a ∈ L, Off F a.A := fun a ha p hp hf => by
    have h1 := ((hok a ha).2 p hp).1
    have h2 := HD.out.lt _ hf
    omega
  have hl2 : lsOf L = splitL bs := hl
  have hll : L.length = cn := by
    have := congrArg List.length hl
    rw [List.length_map] at this
    rw [this, HSL.out]
  have HLS := Lib.hid (And.intro hls (And.intro hA1 (And.intro hO1 hl2)))
  have HX1 := Lib.hid hx
  obtain ⟨d0, d1, d2, d3, d4, d5, d6⟩ := (H.out.ext hx).cells
  clear hrow hok hls hA1 hO1 hl hl2 hx c4 d0 d1 d2 d3
  rw [hll] at HLS ⊢
  go_wp2_with fail
  refine (HFA.out _).mono ?_
  rintro e w2 ⟨rfl, hx⟩
  have HX2 := Lib.hid (HX1.out.trans hx)
  have HX12 := Lib.hid hx
  clear hx d4 d5 d6
  have hput : m.putY r inc ⟨i, ar2, cn⟩ (splitL bs) = if (m.wrY r inc ⟨i, ar2, cn⟩ 0 (splitL bs)).1 ≠ 0 then m.wrY r inc ⟨i, ar2, cn⟩ 0 (splitL bs) else (m.wrY r inc ⟨i, ar2, cn⟩ 0 (splitL bs)).2.store r 2 inc (manL ⟨i, ar2, cn⟩) := rfl
  have hwsz := wrY_size m r inc ⟨i, ar2, cn⟩ 0 (splitL bs)
  have hwwt := wrY_waits m r inc ⟨i, ar2, cn⟩ 0 (splitL bs)
  have hwr : ∀ w3, Ext w2 w3 → Calls Tryz.prog 96 #[.pointer (some ⟨g, 0, none⟩), .agg #[.int .i64 (i : Int), .int .i64 (ar2 : Int), .int .i64 (cn : Int)], .int .i64 0, .slice A1 cn c1] w3 fun e w' => e = .returned (.int .i64 (m.wrY r inc ⟨i, ar2, cn⟩ 0 (splitL bs)).1) ∧ ∃ F', WY w3 d F F' w' (m.wrY r inc ⟨i, ar2, cn⟩ 0 (splitL bs)).2 := fun w3 h23 => by
    have hx3 := HX2.out.trans h23
    have hmem : ∀ a ∈ L, a.l ∈ splitL bs := fun a ha => by rw [← HLS.out.2.2.2]; exact List.mem_map_of_mem ha
    have := ywrite_of (H.out.ext hx3) (HD.out.ext hx3) HG.out (fun V hV => HLM.out V ((Mod.of_ext hx3).trans hV fun _ hi => .inl hi)) i ar2 cn HAR.out 0 A1 cn c1 L (HLS.out.1.ext (HX12.out.trans h23)) HLS.out.2.1 HLS.out.2.2.1 (by have := HCN.out; omega) (fun a ha => by have := HEX.out _ (hmem a ha); omega) (fun j a ha => by
      have hj : j < L.length := (List.getElem?_eq_some_iff.1 ha).1
      have h8 := HCN.out
      have := HSE.out j a.l (by omega) (hmem a (List.mem_of_getElem? ha))
      rw [Nat.zero_add]
      exact this) (by have := HFW.out; omega)
    rw [HLS.out.2.2.2] at this
    exact this
  have HWR := Lib.hid hwr
  have hspn := HSL.out
  rw [hspn] at hwwt
  have HWQ := Lib.hid (And.intro hwsz hwwt)
  have HPUT := Lib.hid hput
  clear hput hwsz hwwt hwr hspn
  generalize m.wrY r inc ⟨i, ar2, cn⟩ 0 (splitL bs) = X at *
  obtain ⟨E, m1⟩ := X
  go_wp2_with fail
  have hE3 := (Ext.refl w2).alloc (.cells #[.int .i64 (i : Int), .int .i64 (ar2 : Int), .int .i64 (cn : Int)] 158)
  have hz3 := heap_alloc_new w2 (.cells #[.int .i64 (i : Int), .int .i64 (ar2 : Int), .int .i64 (cn : Int)] 158)
  generalize w2.alloc (.cells #[.int .i64 (i : Int), .int .i64 (ar2 : Int), .int .i64 (cn : Int)] 158) = w3 at *
  obtain ⟨tb, htb⟩ : ∃ tb, w2.heap.size = tb := ⟨_, rfl⟩
  have htF : ¬ F tb := fun hf => by
    have h1 := HD.out.lt _ hf
    have h2 := HX2.out.size
    omega
  have htg : tb ≠ g := fun e => by
    have h1 := H.out.lt
    have h2 := HX2.out.size
    omega
  rw [htb] at hz3 ⊢
  have HX3 := Lib.hid (HX2.out.trans hE3)
  have HZ3 := Lib.hid (And.intro hz3 (And.intro (Array.getElem?_eq_some_iff.1 hz3).1 (And.intro htF htg)))
  have hwr := HWR.out w3 hE3
  clear hE3 hz3 htb htF htg
  refine hwr.mono ?_
  clear hwr
  rintro e w4 ⟨rfl, F', hW⟩
  have HW := Lib.hid hW
  clear hW
  by_cases h0 : E = 0
  · subst h0
    have hrow := (HW.out.mod.block tb HZ3.out.2.1 HZ3.out.2.2.1).trans HZ3.out.1
    have hsh := ((H.out.ext HX3.out).mod HW.out.mod HG.out)
    obtain ⟨d0, d1, d2, d3, d4, d5, d6⟩ := hsh.cells
    have hS0 : w4.drew.cell? ⟨g, 1, none⟩ = some (.pointer (some ⟨d, 0, none⟩)) ∧ w4.drew.cell? ⟨g, 2, none⟩ = some (.int .i64 r) ∧ w4.drew.cell? ⟨g, 3, none⟩ = some (.int .i64 inc) ∧ w4.drew.cell? ⟨tb, 0, none⟩ = some (.int .i64 (i : Int)) ∧ w4.drew.cell? ⟨tb, 1, none⟩ = some (.int .i64 (ar2 : Int)) ∧ w4.drew.cell? ⟨tb, 2, none⟩ = some (.int .i64 (cn : Int)) := ⟨d1, d2, d3, cell_of_row w4 tb 0 _ _ _ hrow, cell_of_row w4 tb 1 _ _ _ hrow, cell_of_row w4 tb 2 _ _ _ hrow⟩
    have HC0 : Hid (w4.cell? ⟨g, 1, none⟩ = some (.pointer (some ⟨d, 0, none⟩)) ∧ w4.cell? ⟨g, 2, none⟩ = some (.int .i64 r) ∧ w4.cell? ⟨g, 3, none⟩ = some (.int .i64 inc) ∧ w4.cell? ⟨tb, 0, none⟩ = some (.int .i64 (i : Int)) ∧ w4.cell? ⟨tb, 1, none⟩ = some (.int .i64 (ar2 : Int)) ∧ w4.cell? ⟨tb, 2, none⟩ = some (.int .i64 (cn : Int))) := Lib.hid hS0
    have HNG : Hid (¬ F' g ∧ ¬ F' tb) := Lib.hid ⟨HW.out.not_ (Nat.lt_of_lt_of_le H.out.lt HX3.out.size) HG.out, HW.out.not_ HZ3.out.2.1 HZ3.out.2.2.1⟩
    have HLV : Hid (∀ V, Mod F' w4 V → LaidY V) := Lib.hid fun V hV => HLM.out V ((Mod.of_ext HX3.out).trans (HW.out.mod.trans hV fun k hk => by
      by_cases hlt : k < w3.heap.size
      · exact .inl (HW.out.sub k hlt hk)
      · exact .inr (by omega)) fun _ hi => .inl hi)
    have HPR : Hid (∀ V, Hid (Ext w4.drew V) → Calls Tryz.prog 98 #[.agg #[.int .i64 (i : Int), .int .i64 (ar2 : Int), .int .i64 (cn : Int)]] V fun e w' => ∃ A' c', e = .returned (.slice A' 8 c') ∧ By w' A' 8 c' (manL ⟨i, ar2, cn⟩) ∧ (∀ g o, A' = some ⟨g, o, none⟩ → V.heap.size ≤ g) ∧ Ext V w') := Lib.hid fun V hV => yprint_own ⟨i, ar2, cn⟩ V (HLV.out V (Mod.of_ext ((Below.drew (Ext.refl w4)).trans hV.out))) HOK.out
    have hst : ∀ V (A' : Option Addr) (c' : Nat), Hid (Ext w4.drew V) → By V A' 8 c' (manL ⟨i, ar2, cn⟩) → (∀ g o, A' = some ⟨g, o, none⟩ → w4.heap.size ≤ g) → Calls Tryz.prog 97 #[.pointer (some ⟨d, 0, none⟩), .int .i64 r, .int .i64 2, .int .i64 inc, .slice A' 8 c'] V fun e w' => e = .returned (.int .i64 (m1.store r 2 inc (manL ⟨i, ar2, cn⟩)).1) ∧ Step d F' V (m1.store r 2 inc (manL ⟨i, ar2, cn⟩)).2 w' := fun V A' c' hV hby hfr => by
      have hx : Ext w4 V := (Below.drew (Ext.refl w4)).trans hV.out
      have hl : ∀ U, Mod F' V U → LaidF U := fun U hU => (HLV.out U ((Mod.of_ext hx).trans hU fun _ hi => .inl hi)).f
      refine Store_of (HW.out.disk.ext hx) (hl V (Mod.refl _ _)) hl r 2 inc A' 8 c' (manL ⟨i, ar2, cn⟩) hby (fun gg o hA _ hf => ?_) (by
        have h1 := HWQ.out.2
        have h2 := HFW.out
        have h3 := HCN.out
        omega) (knownY HK.out.1 (HWQ.out.1.trans HK.out.2.2))
      have h1 := hfr gg o hA
      have h2 := HW.out.disk.lt _ hf
      omega
    have HST := Lib.hid hst
    generalize m1.store r 2 inc (manL ⟨i, ar2, cn⟩) = R at *
    obtain ⟨E2, m2⟩ := R
    dsimp only at HST
    clear hst hrow hsh d0 d1 d2 d3 d4 d5 d6
    go_wp2_with fail
    go_region_held3 (fun w' => w'.cell? ⟨g, 1, none⟩ = some (.pointer (some ⟨d, 0, none⟩)) ∧ w'.cell? ⟨g, 2, none⟩ = some (.int .i64 r) ∧ w'.cell? ⟨g, 3, none⟩ = some (.int .i64 inc) ∧ w'.cell? ⟨tb, 0, none⟩ = some (.int .i64 (i : Int)) ∧ w'.cell? ⟨tb, 1, none⟩ = some (.int .i64 (ar2 : Int)) ∧ w'.cell? ⟨tb, 2, none⟩ = some (.int .i64 (cn : Int)))
      (first | with_reducible exact hS0 | exact keepIn (by assumption) HC0 | exact hS5)
      (first
        | (go_at_call 98; ((with_reducible refine (HPR.out _ (Lib.hid (Ext.refl w4.drew))).mono ?_); rintro e w5 ⟨A5, c5, rfl, hby, hfr, hx⟩; have HXk : Hid (Ext w4.drew w5) := Lib.hid hx; have HB5 := Lib.hid hby; have HF5 : Hid (∀ g o, A5 = some ⟨g, o, none⟩ → w4.heap.size ≤ g) := Lib.hid hfr; clear hx hby hfr))
        | (go_at_call 97; ((with_reducible refine (HST.out _ A5 c5 HXk HB5.out HF5.out).mono ?_); rintro e w6 ⟨rfl, hst6⟩; have HS6 := Lib.hid hst6; have hS5 := keepInM (Lib.hid hst6.2) HNG (Lib.hid (keepIn HXk HC0)); clear hst6)))
    have hx5 : Ext w4 w5 := (Below.drew (Ext.refl w4)).trans HXk.out
    have HW6 := Lib.hid ((HW.out.ext hx5).step HS6.out.1 HS6.out.2)
    have HNG6 : Hid (¬ grow F' w5 w6 g) := Lib.hid (HW6.out.not_ (Nat.lt_of_lt_of_le H.out.lt HX3.out.size) HG.out)
    have HS7 := Lib.hid ((H.out.ext HX3.out).mod HW6.out.mod HG.out)
    have HI3 : Hid ((Tryz.prog.info? 158).map (·.size) = some 3) := Lib.hid (by kernel_rfl)
    by_cases h2 : E2 = 0
    · subst h2
      have hq : Z = (0, m2) := by rw [← HZS.out.1, HPUT.out, if_neg (by simp)]
      have hs2 : s' = ⟨i, ar2, cn⟩ := by rw [← HZS.out.2, hq, if_pos rfl]
      have HQS := Lib.hid (And.intro hq hs2)
      clear hx5 hq hs2 hS0
      obtain ⟨_, _, _, b0, b1, b2⟩ := hS5
      go_wp2_with (refine wpList_store_mid rfl 158 _ _ rfl g 4 #[.int .i64 (i : Int), .int .i64 (ar2 : Int), .int .i64 (cn : Int)] ?hx ?hy ?ht ?hi ?h1 ?hh)
      case hx => rfl
      case hy => rfl
      case ht => exact there_row HS7.out.row 4 3 (by simp)
      case hi => exact HI3.out
      case h1 => simp [Value.oneCell']
      have hrw := row_setCells HS7.out.row 4 [.int .i64 (i : Int), .int .i64 (ar2 : Int), .int .i64 (cn : Int)]
      have hmd : Mod (fun k => k = g) w6 (w6.setCells g 4 [.int .i64 (i : Int), .int .i64 (ar2 : Int), .int .i64 (cn : Int)]) := (Mod.refl _ w6).setCells g 4 _ (.inl rfl)
      generalize w6.setCells g 4 [.int .i64 (i : Int), .int .i64 (ar2 : Int), .int .i64 (cn : Int)] = w7 at *
      have HRW := Lib.hid hrw
      have HMD := Lib.hid hmd
      clear hrw hmd b0 b1 b2
      go_wp2_with fail
      refine bodyPost_ret (v := .int .i64 0) (by simp [results, Tryz.results30, go_sem]) rfl ?_
      rw [HQS.out.1, HQS.out.2]
      have hwb := HW6.out.base HX3.out
      refine ⟨rfl, _, hwb.disk.mod HMD.out (fun k hk e => HNG6.out (e ▸ hk)), hwb.sub, HNG6.out, (hwb.mod.mono fun _ hi => .inl hi).trans HMD.out fun k hk => .inl (.inr hk), ⟨?_⟩⟩
      exact HRW.out
    · have hne : (E2 != 0) = true := by simpa using h2
      have hq : Z = (E2, m2) := by rw [← HZS.out.1, HPUT.out, if_neg (by simp)]
      have hs2 : s' = s := by rw [← HZS.out.2, hq, if_neg h2]
      have HQS := Lib.hid (And.intro hq hs2)
      clear hq hs2 hx5 h2 hS0 hS5
      go_wp2_with fail
      refine bodyPost_ret (v := .int .i64 E2) (by simp [results, Tryz.results30, go_sem]) rfl ?_
      rw [HQS.out.1, HQS.out.2]
      exact ⟨rfl, (HW6.out.base HX3.out).ins H.out HG.out⟩
  · have hne : (E != 0) = true := by simpa using h0
    have HNE := Lib.hid h0
    clear h0
    go_wp2_with fail
    refine bodyPost_ret (v := .int .i64 E) (by simp [results, Tryz.results30, go_sem]) rfl ?_
    have hq : Z = (E, m1) := by rw [← HZS.out.1, HPUT.out, if_pos HNE.out]
    have hs2 : s' = s := by rw [← HZS.out.2, hq, if_neg HNE.out]
    rw [hq, hs2]
    exact ⟨rfl, (HW.out.base HX3.out).ins H.out HG.out⟩
end
section
open Go Go.RowKit
set_option maxHeartbeats 800000 in
theorem ygreat_of {w : World} {B : Nat} (A : Option Addr) (n c : Nat) (L : List Lst) (h : Lsts w B A n c L) :
    Calls Tryz.prog 37 #[.slice A n c] w fun e w' => ∃ b, e = .returned (.bool b) ∧ w = w' ∧ (b = false → n ≤ 6 ∧ ∀ (i : Nat) (a : Lst), L[i]? = some a → a.n ≤ 640) := by
  have HL := Lib.hid h
  have hcap := h.cap
  have hmost := h.most
  clear h
  go_enter Tryz.func37, Tryz.ntmps37
  by_cases hn : n ≤ 6
  case neg =>
    have hn : (6 : Int) < (n : Int) := by omega
    go_wp2_with fail
    go_ret
    exact ⟨true, rfl, rfl, fun h => by cases h⟩
  have hn6 : (n : Int) ≤ 6 := by omega
  go_wp2_with fail
  go_loopw [3] (fun v wr => ∃ k : Nat, k ≤ n ∧ v = .int .i64 (k : Int) ∧ wr = w ∧ Hid (∀ (i : Nat) (a : Lst), i < k → L[i]? = some a → a.n ≤ 640)) (fun v _ => n - (intOf v).toNat)
  case atStart => exact ⟨0, by omega, rfl, rfl, Lib.hid fun i a h => by omega⟩
  case round =>
    obtain ⟨k, hk, rfl, rfl, HF⟩ := hrel
    by_cases hlt : k < n
    · obtain ⟨g, o, a, hA, hg, ha, hby, hcell⟩ := HL.out.at_ hlt
      subst hA
      obtain ⟨aA, an, ac, al⟩ := a
      have HAT := Lib.hid ha
      clear ha hby
      dsimp only at hcell
      have hlt' : (k : Int) < (n : Int) := by omega
      by_cases h2 : an ≤ 640
      · have h2' : (an : Int) ≤ 640 := by omega
        go_wp2_with fail
        go_roundw
        case rel => exact ⟨k + 1, by omega, by go_num, trivial, Lib.hid fun i a hi ha => by
          by_cases e : i = k
          · subst e
            rw [HAT.out] at ha
            injection ha with ha
            subst ha
            exact h2
          · exact HF.out i a (by omega) ha⟩
        case measure => simp [intOf]; omega
      · have h2' : (640 : Int) < (an : Int) := by omega
        go_wp2_with fail
        go_ret
        exact ⟨true, rfl, rfl, fun h => by cases h⟩
    · obtain rfl : k = n := by omega
      go_wp2_with fail
      go_ret
      exact ⟨false, rfl, rfl, fun _ => ⟨hn, fun i a ha => HF.out i a (by have := (List.getElem?_eq_some_iff.1 ha).1; have := HL.out.len; omega) ha⟩⟩
def DM.holdY (m : DM) (r : Int) (s : ShM) (i : Int) (bs : List Nat) : Bool := decide ((s.ix : Int) = i ∧ m.allE r s = 0 ∧ m.allO r s = bs ∧ m.hurtK r s s.ct = [])
set_option maxHeartbeats 1600000 in
theorem yholds_of {w : World} {g d : Nat} {r inc : Int} {s : ShM} {F : Nat → Prop} {m : DM} (h : ShAt w g d r inc s) (hd : PDisk w d F m) (hL : LaidY w) (hct : s.ct ≤ 8) (har : s.ar ≤ 1) (hfew : m.waits.length ≤ 1000000) (i : Int) (A : Option Addr) (n c : Nat) (bs : List Nat) (hb : By w A n c bs) :
    Calls Tryz.prog 42 #[.pointer (some ⟨g, 0, none⟩), .int .i64 i, .slice A n c] w fun e w' => e = .returned (.bool (m.holdY r s i bs)) ∧ Ext w w' := by
  have hB := ybytes_of h hd hL hct har hfew
  have hI : ∀ V, Ext w V → Calls Tryz.prog 46 #[.pointer (some ⟨g, 0, none⟩)] V fun e w' => e = .returned (.int .i64 (s.ix : Int)) ∧ V = w' := fun V hV => yindex_of (h.ext hV)
  have hS : ∀ V (A1 : Option Addr) (n1 c1 : Nat), Ext w V → By V A1 n1 c1 (m.allO r s) → Calls Tryz.prog 34 #[.slice A1 n1 c1, .slice A n c] V fun e w' => e = .returned (.bool (decide (m.allO r s = bs))) ∧ Ext V w' := fun V A1 n1 c1 hV hby => same_by A1 A (m.allO r s) bs n1 n c1 c V hby (hb.ext hV)
  have hH : ∀ V, Ext w V → Calls Tryz.prog 47 #[.pointer (some ⟨g, 0, none⟩)] V fun e w' => ∃ A' c', e = .returned (.slice A' (m.hurtK r s s.ct).length c') ∧ Ext V w' := fun V hV => (yhurt_yes (h.ext hV) (hd.ext hV) (hL.ext hV) hct har hfew).mono fun _ _ ⟨A', c', h1, _, h3⟩ => ⟨A', c', h1, h3⟩
  obtain ⟨R, hR⟩ : ∃ R, m.holdY r s i bs = R := ⟨_, rfl⟩
  rw [hR]
  unfold DM.holdY at hR
  obtain ⟨dd, hdd⟩ : ∃ dd, decide (m.allO r s = bs) = dd := ⟨_, rfl⟩
  rw [hdd] at hS
  obtain ⟨N, hN⟩ : ∃ N, (m.hurtK r s s.ct).length = N := ⟨_, rfl⟩
  rw [hN] at hH
  have hz : (m.hurtK r s s.ct = []) ↔ N = 0 := by rw [← hN]; exact List.length_eq_zero_iff.symm
  obtain ⟨O, hO⟩ : ∃ O, m.allO r s = O := ⟨_, rfl⟩
  rw [hO] at hB hS hR hdd
  obtain ⟨E, hE⟩ : ∃ E, m.allE r s = E := ⟨_, rfl⟩
  rw [hE] at hB hR
  obtain ⟨X, hX⟩ : ∃ X : Nat, s.ix = X := ⟨_, rfl⟩
  rw [hX] at hI hR
  have HB := Lib.hid hB
  have HI := Lib.hid hI
  have HS := Lib.hid hS
  have HH := Lib.hid hH
  clear h hd hL hct har hfew hb hN hO hE hX hB hI hS hH
  by_cases q1 : (X : Int) = i
  · have e1 : ((X : Int) == i) = true := by simpa using q1
    by_cases q2 : E = 0
    · subst q2
      cases dd with
      | true =>
        by_cases q4 : N = 0
        · subst q4
          have HR : Hid (R = true) := Lib.hid (by rw [← hR]; exact decide_eq_true ⟨q1, rfl, of_decide_eq_true hdd, hz.2 rfl⟩)
          clear q1 hR hdd hz
          go_enter Tryz.func42, Tryz.ntmps42
          go_wp2_with fail
          refine HB.out.mono ?_
          rintro e w1 ⟨A1, n1, c1, rfl, hby, _, hx⟩
          have HX1 := Lib.hid hx
          have HBY := Lib.hid hby
          clear hx hby
          go_wp2_with fail
          refine (HI.out _ HX1.out).mono ?_
          rintro e w2 ⟨rfl, rfl⟩
          go_wp2_with fail
          refine (HS.out _ A1 n1 c1 HX1.out HBY.out).mono ?_
          rintro e w2 ⟨rfl, hx⟩
          have HX2 := Lib.hid (HX1.out.trans hx)
          clear hx
          go_wp2_with fail
          refine (HH.out _ HX2.out).mono ?_
          rintro e w3 ⟨A3, c3, rfl, hx⟩
          have HX3 := Lib.hid (HX2.out.trans hx)
          clear hx
          go_wp2_with fail
          refine bodyPost_ret (v := .bool true) (by simp [results, Tryz.results42, go_sem]) rfl ?_
          exact ⟨by rw [HR.out], HX3.out⟩
        · have e4 : ((N : Int) == 0) = false := by simpa using q4
          have HR : Hid (R = false) := Lib.hid (by rw [← hR]; exact decide_eq_false (fun hh => q4 (hz.1 hh.2.2.2)))
          clear q1 hR hdd hz q4
          go_enter Tryz.func42, Tryz.ntmps42
          go_wp2_with fail
          refine HB.out.mono ?_
          rintro e w1 ⟨A1, n1, c1, rfl, hby, _, hx⟩
          have HX1 := Lib.hid hx
          have HBY := Lib.hid hby
          clear hx hby
          go_wp2_with fail
          refine (HI.out _ HX1.out).mono ?_
          rintro e w2 ⟨rfl, rfl⟩
          go_wp2_with fail
          refine (HS.out _ A1 n1 c1 HX1.out HBY.out).mono ?_
          rintro e w2 ⟨rfl, hx⟩
          have HX2 := Lib.hid (HX1.out.trans hx)
          clear hx
          go_wp2_with fail
          refine (HH.out _ HX2.out).mono ?_
          rintro e w3 ⟨A3, c3, rfl, hx⟩
          have HX3 := Lib.hid (HX2.out.trans hx)
          clear hx
          go_wp2_with fail
          refine bodyPost_ret (v := .bool false) (by simp [results, Tryz.results42, go_sem]) rfl ?_
          exact ⟨by rw [HR.out], HX3.out⟩
      | false =>
        have HR : Hid (R = false) := Lib.hid (by rw [← hR]; exact decide_eq_false (fun hh => of_decide_eq_false hdd hh.2.2.1))
        clear q1 hR hdd hz
        go_enter Tryz.func42, Tryz.ntmps42
        go_wp2_with fail
        refine HB.out.mono ?_
        rintro e w1 ⟨A1, n1, c1, rfl, hby, _, hx⟩
        have HX1 := Lib.hid hx
        have HBY := Lib.hid hby
        clear hx hby
        go_wp2_with fail
        refine (HI.out _ HX1.out).mono ?_
        rintro e w2 ⟨rfl, rfl⟩
        go_wp2_with fail
        refine (HS.out _ A1 n1 c1 HX1.out HBY.out).mono ?_
        rintro e w2 ⟨rfl, hx⟩
        have HX2 := Lib.hid (HX1.out.trans hx)
        clear hx
        go_wp2_with fail
        refine bodyPost_ret (v := .bool false) (by simp [results, Tryz.results42, go_sem]) rfl ?_
        exact ⟨by rw [HR.out], HX2.out⟩
    · have e2 : (E == 0) = false := by simpa using q2
      have HR : Hid (R = false) := Lib.hid (by rw [← hR]; exact decide_eq_false (fun hh => q2 hh.2.1))
      clear q1 hR hdd hz q2
      go_enter Tryz.func42, Tryz.ntmps42
      go_wp2_with fail
      refine HB.out.mono ?_
      rintro e w1 ⟨A1, n1, c1, rfl, hby, _, hx⟩
      have HX1 := Lib.hid hx
      have HBY := Lib.hid hby
      clear hx hby
      go_wp2_with fail
      refine (HI.out _ HX1.out).mono ?_
      rintro e w2 ⟨rfl, rfl⟩
      go_wp2_with fail
      refine bodyPost_ret (v := .bool false) (by simp [results, Tryz.results42, go_sem]) rfl ?_
      exact ⟨by rw [HR.out], HX1.out⟩
  · have e1 : ((X : Int) == i) = false := by simpa using q1
    have HR : Hid (R = false) := Lib.hid (by rw [← hR]; exact decide_eq_false (fun hh => q1 hh.1))
    clear q1 hR hdd hz
    go_enter Tryz.func42, Tryz.ntmps42
    go_wp2_with fail
    refine HB.out.mono ?_
    rintro e w1 ⟨A1, n1, c1, rfl, hby, _, hx⟩
    have HX1 := Lib.hid hx
    have HBY := Lib.hid hby
    clear hx hby
    go_wp2_with fail
    refine (HI.out _ HX1.out).mono ?_
    rintro e w2 ⟨rfl, rfl⟩
    go_wp2_with fail
    refine bodyPost_ret (v := .bool false) (by simp [results, Tryz.results42, go_sem]) rfl ?_
    exact ⟨by rw [HR.out], HX1.out⟩
end
section
open Go Go.RowKit
theorem loadB_lenY {m : DM} (h : m.Ok) (r g : Int) : (m.loadB r g).length ≤ 43 := by
  unfold DM.loadB
  split
  · unfold cellB
    split
    · rename_i ha
      exact (mine_copy (read_sect h _) (atC_zero ha)).2.2.2.2
    · split
      · rename_i ha
        exact (mine_copy (read_sect h _) (atC_one ha)).2.2.2.2
      · simp
  · simp
def OpnY (w : World) (d g : Nat) (r inc : Int) (F : Nat → Prop) (m' : DM) (s' : ShM) (w' : World) : Prop :=
  w.heap.size ≤ g ∧ ∃ F', PDisk w' d F' m' ∧ (∀ k, k < w.heap.size → F' k → F k) ∧ ¬ F' g ∧ Mod F w w' ∧ ShAt w' g d r inc s'
set_option maxHeartbeats 1600000 in
theorem yopen_yes {w : World} {d : Nat} {F : Nat → Prop} {m : DM} (h : PDisk w d F m) (hL : LaidY w) (r c : Int) (h0 : m.size ≠ 0) (hc : inI 1 c 1099511627776 = true) (hk : knownC m.size r 2 = 0) (hfew : m.waits.length + 1 ≤ 1000000)
    (hE : ldE3 (m.loadV r 2) (m.loadB r 2) (m.loadE r 2) = 0) (hh : (m.heal r 2).1 = 0) :
    Calls Tryz.prog 27 #[.pointer (some ⟨d, 0, none⟩), .int .i64 r, .int .i64 c] w fun e w' => ∃ g, e = .returned (.tuple #[.pointer (some ⟨g, 0, none⟩), .int .i64 0]) ∧ OpnY w d g r c F (m.heal r 2).2 (ldS3 (m.loadV r 2) (m.loadB r 2) (m.loadE r 2)) w' := by
  have HS := Lib.hid (size_pd h)
  have HC := Lib.hid hc
  have hld := yload_of (LoadsY.of h hL r hk (by omega)) hL (loadB_lenY h.ok r 2)
  rw [hE] at hld
  have hne : ((m.size : Int) == 0) = false := by simpa using h0
  obtain ⟨S, hS⟩ : ∃ S, ldS3 (m.loadV r 2) (m.loadB r 2) (m.loadE r 2) = S := ⟨_, rfl⟩
  rw [hS] at hld ⊢
  obtain ⟨x, y, z⟩ := S
  dsimp only at hld
  have hhl : ∀ V, Ext w V → Calls Tryz.prog 89 #[.pointer (some ⟨d, 0, none⟩), .int .i64 r, .int .i64 2] V fun e w' => e = .returned (.int .i64 0) ∧ Step d F V (m.heal r 2).2 w' := fun V hV => by
    have := Heal_of (h.ext hV) (hL.f.ext hV) r 2 hfew hk
    rw [hh] at this
    exact this
  have HLD := Lib.hid hld
  have HHL := Lib.hid hhl
  have HD := Lib.hid h
  clear h hL h0 hc hk hfew hE hh hld hhl hS
  generalize (m.heal r 2).2 = m2 at *
  go_enter Tryz.func27, Tryz.ntmps27
  go_wp2_with fail
  refine HS.out.mono ?_
  rintro e w1 ⟨rfl, rfl⟩
  go_wp2_with fail
  refine (ywithin_of 1 c 1099511627776 _).mono ?_
  rw [HC.out]
  rintro e w1 ⟨rfl, rfl⟩
  go_wp2_with fail
  refine HLD.out.mono ?_
  rintro e w1 ⟨rfl, hx⟩
  have HX := Lib.hid hx
  clear hx
  go_wp2_with fail
  have hE3 := (Ext.refl w1).alloc (.cells #[.int .i64 (x : Int), .int .i64 (y : Int), .int .i64 (z : Int)] 158)
  have hz3 := heap_alloc_new w1 (.cells #[.int .i64 (x : Int), .int .i64 (y : Int), .int .i64 (z : Int)] 158)
  generalize w1.alloc (.cells #[.int .i64 (x : Int), .int .i64 (y : Int), .int .i64 (z : Int)] 158) = w2 at *
  obtain ⟨tb, htb⟩ : ∃ tb, w1.heap.size = tb := ⟨_, rfl⟩
  have htF : ¬ F tb := fun hf => by
    have h1 := HD.out.lt _ hf
    have h2 := HX.out.size
    omega
  rw [htb] at hz3 ⊢
  have HX2 := Lib.hid (HX.out.trans hE3)
  have HZ := Lib.hid (And.intro hz3 (And.intro (Array.getElem?_eq_some_iff.1 hz3).1 htF))
  clear hE3 hz3 htb htF
  refine (HHL.out w2 HX2.out).mono ?_
  rintro e w3 ⟨rfl, hst⟩
  have hrow := (hst.2.block tb HZ.out.2.1 HZ.out.2.2).trans HZ.out.1
  have HW := Lib.hid (((WY.start (HD.out.ext HX2.out)).step hst.1 hst.2).base HX2.out)
  have c0 := cell_of_row w3 tb 0 _ _ _ hrow
  have c1 := cell_of_row w3 tb 1 _ _ _ hrow
  have c2 := cell_of_row w3 tb 2 _ _ _ hrow
  clear hst hrow
  go_wp2_with fail
  refine bodyPost_ret (v := .tuple #[.pointer (some ⟨w3.heap.size, 0, none⟩), .int .i64 0]) (by simp [results, Tryz.results27, go_sem]) rfl ?_
  have hx := (Ext.refl w3).alloc (.cells #[.pointer (some ⟨w3.heap.size, 0, none⟩), .pointer (some ⟨d, 0, none⟩), .int .i64 r, .int .i64 c, .int .i64 (x : Int), .int .i64 (y : Int), .int .i64 (z : Int)] 163)
  have hw4 := HW.out.ext hx
  exact ⟨w3.heap.size, rfl, HW.out.mod.size, _, hw4.disk, hw4.sub, (fun hf => by have := HW.out.disk.lt _ hf; omega), hw4.mod, ⟨heap_alloc_new w3 _⟩⟩
end
section
open Go Go.RowKit
theorem fitsZ_iff {k : Int} {count n : Nat} : fitsZ k count n = true ↔ 1 ≤ count ∧ count ≤ 8 ∧ 0 ≤ k ∧ k < (count : Int) ∧ n ≤ 80 ∧ (k + 1 < (count : Int) → n = 80) ∧ (1 ≤ n ∨ count = 1) := by
  unfold fitsZ
  rw [Bool.and_eq_true, decide_eq_true_iff, fitsC_iff]
  constructor
  · rintro ⟨a, b, c, d, e, f, g⟩
    exact ⟨b, c, a, by omega, e, fun h => f (by omega), g⟩
  · rintro ⟨b, c, a, d, e, f, g⟩
    exact ⟨a, b, c, by omega, e, fun h => f (by omega), g⟩
end
end Go.Proofs.YtgcinagkbdcgiaaGreatDoor

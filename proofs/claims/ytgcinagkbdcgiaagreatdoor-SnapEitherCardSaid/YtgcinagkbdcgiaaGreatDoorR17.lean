/-
  The contracts of a heap's Put, Lose, Get, Whole.
-/
import Derived.Test.YtgcinagkbdcgiaaGreatDoorR00
import Derived.Test.YtgcinagkbdcgiaaGreatDoorR05
import Derived.Test.YtgcinagkbdcgiaaGreatDoorR06
import Derived.Test.YtgcinagkbdcgiaaGreatDoorR13
import Derived.Test.YtgcinagkbdcgiaaGreatDoorR14
import Derived.Test.YtgcinagkbdcgiaaGreatDoorR16
import Derived.Deep.RegionHeld3
namespace Go.Proofs.YtgcinagkbdcgiaaGreatDoor
set_option maxRecDepth 100000
section
open Go Go.RowKit Go.Maps
theorem ext_cellZ2 {w w' : World} {a : Addr} {v : Value} (h : Ext w w') (hc : w.cell? a = some v) : w'.cell? a = some v := (Below.cell h (p := a) (World.block_lt_of_cell? w _ hc)).trans hc
theorem mod_cellZ {F : Nat → Prop} {w w' : World} (k : Mod F w w') {g i : Nat} {v : Value} (hg : ¬ F g) (h : w.cell? ⟨g, i, none⟩ = some v) : w'.cell? ⟨g, i, none⟩ = some v := mod_cell k hg h
section
variable {w w' : World} {h count bm nb : Nat} {f : Int → Option Lst}
theorem ZH.put (z : ZH w h count bm nb f) {w1 w2 : World} {k : Int} {a : Lst} (hk : 0 ≤ k ∧ k < (count : Int)) (hx : Ext w w1) (hb : By w1 a.A a.n a.c a.l) (hn : a.n ≤ 80) (hfr : ∀ p, a.A = some p → w.heap.size ≤ p.block) (hm : MapZ w2 bm (nb + 1) (updZ f k (some a))) (ht : w1.mapTurned w2 bm) :
    ZH w2 h count bm (nb + 1) (updZ f k (some a)) := by
  have hmo := turned_mod ht
  have hbm := z.map.lt
  refine ⟨heap_mod ((z.ext hx).row) hmo z.ne, hm, fun j hj => ?_, fun j b hjb => ?_, z.cnt⟩
  · unfold updZ at hj
    split at hj
    · rename_i e; rw [e]; exact hk
    · exact z.rng j hj
  · unfold updZ at hjb
    split at hjb
    · injection hjb with hjb
      subst hjb
      have hne : ∀ p, a.A = some p → p.block ≠ bm := fun p hp => by have := hfr p hp; omega
      exact ⟨By.mod hb hmo fun p hp e => hne p hp e, hn, hne⟩
    · obtain ⟨h1, h2, h3⟩ := z.each j b hjb
      exact ⟨By.mod (h1.ext hx) hmo fun p hp e => h3 p hp e, h2, h3⟩
theorem ZH.drop (z : ZH w h count bm nb f) {w2 : World} {k : Int} (hm : MapZ w2 bm nb (updZ f k none)) (ht : w.mapTurned w2 bm) : ZH w2 h count bm nb (updZ f k none) := by
  have hmo := turned_mod ht
  refine ⟨heap_mod z.row hmo z.ne, hm, fun j hj => ?_, fun j b hjb => ?_, z.cnt⟩
  · unfold updZ at hj
    split at hj
    · cases hj
    · exact z.rng j hj
  · unfold updZ at hjb
    split at hjb
    · cases hjb
    · obtain ⟨h1, h2, h3⟩ := z.each j b hjb
      exact ⟨By.mod h1 hmo fun p hp e => h3 p hp e, h2, h3⟩
end
set_option maxHeartbeats 800000 in
theorem zput_no {w : World} {h count bm nb : Nat} {f : Int → Option Lst} (z : ZH w h count bm nb f) (k : Int) (A : Option Addr) (n c : Nat) (hf : fitsZ k count n = false) :
    Calls Tryz.prog 195 #[.pointer (some ⟨h, 0, none⟩), .int .i64 k, .slice A n c] w fun e w' => e = .returned (.int .i64 2) ∧ w = w' := by
  have HM := Lib.hid (zmade_yes h w z.cells.1)
  have hy := zmay_of count z.cnt k A n c w
  rw [hf] at hy
  have HY := Lib.hid hy
  obtain ⟨c0, c1, c2⟩ := z.cells
  clear hf hy z
  go_enter Tryz.func195, Tryz.ntmps195
  go_wp2_with fail
  refine HM.out.mono ?_
  rintro e w1 ⟨rfl, rfl⟩
  go_wp2_with fail
  refine HY.out.mono ?_
  rintro e w1 ⟨rfl, rfl⟩
  go_wp2_with fail
  go_ret
  exact ⟨rfl, rfl⟩
set_option maxHeartbeats 800000 in
theorem zput_yes {w : World} {h count bm nb : Nat} {f : Int → Option Lst} (z : ZH w h count bm nb f) (hnb : nb ≤ 1000) (k : Int) (A : Option Addr) (n c : Nat) (l : List Nat) (hb : By w A n c l) (hf : fitsZ k count n = true) :
    Calls Tryz.prog 195 #[.pointer (some ⟨h, 0, none⟩), .int .i64 k, .slice A n c] w fun e w' => e = .returned (.int .i64 0) ∧ ∃ a : Lst, a.l = l ∧ ZH w' h count bm (nb + 1) (updZ f k (some a)) ∧ Mod (fun i => i = bm) w w' := by
  have HM := Lib.hid (zmade_yes h w z.cells.1)
  have hy := zmay_of count z.cnt k A n c w
  rw [hf] at hy
  have HY := Lib.hid hy
  have hk : 0 ≤ k ∧ k < (count : Int) ∧ n ≤ 80 := by
    rw [fitsZ_eq z.cnt, Bool.and_eq_true, inZ_iff, inZ_iff] at hf
    omega
  obtain ⟨hk0, hkc, hn80⟩ := hk
  have hwf : (Lit.int .i64 k).wf = true := WalkArith.wf_i64 (by have := z.cnt; omega)
  have HCL := Lib.hid (sclone_by A l n c w.drew (hb.ext (Ext.refl w).drew) (by omega))
  have HST := Lib.hid (fun (V : World) (hV : MapZ V bm nb f) (a : Lst) => hV.store hwf (by unfold maxLen; omega) a)
  obtain ⟨c0, c1, c2⟩ := z.cells
  have HZ := Lib.hid z
  have hS0 : w.drew.cell? ⟨h, 2, none⟩ = some (.map (some bm)) := c2
  clear hf hy z hb
  go_enter Tryz.func195, Tryz.ntmps195
  go_wp2_with fail
  refine HM.out.mono ?_
  rintro e w1 ⟨rfl, rfl⟩
  go_wp2_with fail
  refine HY.out.mono ?_
  rintro e w1 ⟨rfl, rfl⟩
  go_wp2_with fail
  go_region_held3 (fun w' => w'.cell? ⟨h, 2, none⟩ = some (.map (some bm)))
    (first | with_reducible exact hS0 | with_reducible exact hS1 | with_reducible exact hS2 | with_reducible assumption)
    (first
      | (go_at_call 187; ((with_reducible refine HCL.out.mono ?_); rintro e' w3 ⟨A', c', rfl, hby, hx, hown⟩; have HX := Lib.hid (Ext.trans (Ext.refl w).drew hx); have HBY := Lib.hid hby; have HFR := Lib.hid (own_fresh hown); have hS1 := ext_cellZ2 hx hS0; obtain ⟨w4, hrun, hmz, htn⟩ := HST.out w3 (HZ.out.map.ext HX.out) ⟨A', n, c', l⟩; have hS2 := mod_cellZ (turned_mod htn) HZ.out.ne hS1; have HMZ := Lib.hid hmz; have HTN := Lib.hid htn; clear hby hx hown hmz htn)))
  go_wp2_with fail
  go_ret
  refine ⟨rfl, ⟨A', n, c', l⟩, rfl, HZ.out.put ⟨hk0, hkc⟩ HX.out HBY.out hn80 (fun p hp => (HFR.out p hp).1) HMZ.out HTN.out, ?_⟩
  exact (Mod.of_ext HX.out).trans (turned_mod HTN.out) fun i hi => .inl hi
end
section
open Go Go.RowKit Go.Maps
section
variable {w : World} {p : Option Addr}
set_option maxHeartbeats 400000 in
theorem zput_nil (hp : UnmadeZ w p) (k : Int) (A : Option Addr) (n c : Nat) : Calls Tryz.prog 195 #[.pointer p, .int .i64 k, .slice A n c] w fun e w' => e = .returned (.int .i64 1) ∧ w = w' := by
  have HM := Lib.hid (zmade_no p w hp)
  clear hp
  go_enter Tryz.func195, Tryz.ntmps195
  go_wp2_with fail
  refine HM.out.mono ?_
  rintro e w1 ⟨rfl, rfl⟩
  go_wp2_with fail
  go_ret
  exact ⟨rfl, rfl⟩
end
end
section
open Go Go.RowKit
structure ShAt (w : World) (g d : Nat) (r inc : Int) (s : ShM) : Prop where
  row : w.heap[g]? = some (.cells #[.pointer (some ⟨g, 0, none⟩), .pointer (some ⟨d, 0, none⟩), .int .i64 r, .int .i64 inc, .int .i64 (s.ix : Int), .int .i64 (s.ar : Int), .int .i64 (s.ct : Int)] 163 (0, 0))
section
variable {w w' : World} {g d : Nat} {r inc : Int} {s : ShM}
theorem ShAt.lt (h : ShAt w g d r inc s) : g < w.heap.size := (Array.getElem?_eq_some_iff.1 h.row).1
theorem ShAt.cells (h : ShAt w g d r inc s) : w.cell? ⟨g, 0, none⟩ = some (.pointer (some ⟨g, 0, none⟩)) ∧ w.cell? ⟨g, 1, none⟩ = some (.pointer (some ⟨d, 0, none⟩)) ∧ w.cell? ⟨g, 2, none⟩ = some (.int .i64 r) ∧ w.cell? ⟨g, 3, none⟩ = some (.int .i64 inc) ∧ w.cell? ⟨g, 4, none⟩ = some (.int .i64 (s.ix : Int)) ∧ w.cell? ⟨g, 5, none⟩ = some (.int .i64 (s.ar : Int)) ∧ w.cell? ⟨g, 6, none⟩ = some (.int .i64 (s.ct : Int)) :=
  ⟨cell_of_row w g 0 _ _ _ h.row, cell_of_row w g 1 _ _ _ h.row, cell_of_row w g 2 _ _ _ h.row, cell_of_row w g 3 _ _ _ h.row, cell_of_row w g 4 _ _ _ h.row, cell_of_row w g 5 _ _ _ h.row, cell_of_row w g 6 _ _ _ h.row⟩
theorem ShAt.ext (h : ShAt w g d r inc s) (hx : Ext w w') : ShAt w' g d r inc s := ⟨(hx.block _ h.lt).trans h.row⟩
theorem ShAt.mod {F : Nat → Prop} (h : ShAt w g d r inc s) (hm : Mod F w w') (hF : ¬ F g) : ShAt w' g d r inc s := ⟨(hm.block g h.lt hF).trans h.row⟩
end
theorem eqlY_self (a : Addr) (w : World) : (binOp .eql 76 (.pointer (some a)) (.pointer (some a))).run Tryz.prog w = .ok (.bool true) w := by
  have hi : (Tryz.prog.info? 163).isSome = true := by kernel_rfl
  obtain ⟨j, hj⟩ := Option.isSome_iff_exists.1 hi
  exact run_eql_ptr_same w a Tryz.underlying76 hj
set_option maxHeartbeats 400000 in
theorem ymade_yes (g : Nat) (w : World) (h : w.cell? ⟨g, 0, none⟩ = some (.pointer (some ⟨g, 0, none⟩))) :
    Calls Tryz.prog 93 #[.pointer (some ⟨g, 0, none⟩)] w fun e w' => e = .returned (.bool true) ∧ w = w' := by
  have he := eqlY_self
  go_enter Tryz.func93, Tryz.ntmps93
  go_wp2
  go_ret
  exact ⟨rfl, rfl⟩
def UnmadeY (w : World) (p : Option Addr) : Prop := p = none ∨ ∃ d, p = some ⟨d, 0, none⟩ ∧ w.cell? ⟨d, 0, none⟩ = some (.pointer none)
theorem UnmadeY.ext {w w' : World} {p : Option Addr} (h : UnmadeY w p) (hx : Ext w w') : UnmadeY w' p := h.imp id fun ⟨d, e, hc⟩ => ⟨d, e, ext_of_cell hx hc⟩
set_option maxHeartbeats 400000 in
theorem ywithin_of (a b c : Int) (w : World) : Calls Tryz.prog 87 #[.int .i64 a, .int .i64 b, .int .i64 c] w fun e w' => e = .returned (.bool (inI a b c)) ∧ w = w' := by
  by_cases h : a ≤ b
  · have hi : inI a b c = decide (b ≤ c) := by unfold inI; rw [decide_eq_true h, Bool.true_and]
    rw [hi]
    clear hi
    go_enter Tryz.func87, Tryz.ntmps87
    go_wp2_with fail
    go_ret
    exact ⟨rfl, rfl⟩
  · have hi : inI a b c = false := by unfold inI; rw [decide_eq_false h, Bool.false_and]
    rw [hi]
    clear hi
    go_enter Tryz.func87, Tryz.ntmps87
    go_wp2_with fail
    go_ret
    exact ⟨rfl, rfl⟩
theorem inI_iff {a b c : Int} : inI a b c = true ↔ a ≤ b ∧ b ≤ c := by unfold inI; simp
set_option maxHeartbeats 400000 in
theorem yplace_of (ix ar ct k : Nat) (ha : ar ≤ 1) (hk : k ≤ 100) (w : World) :
    Calls Tryz.prog 189 #[.agg #[.int .i64 (ix : Int), .int .i64 (ar : Int), .int .i64 (ct : Int)], .int .i64 (k : Int)] w fun e w' => e = .returned (.int .i64 ((8 * ar + k : Nat) : Int)) ∧ Ext w w' := by
  have hx : Ext w (w.alloc (.cells #[.int .i64 (ix : Int), .int .i64 (ar : Int), .int .i64 (ct : Int)] 158)) := (Ext.refl w).alloc _
  have HX := Lib.hid hx
  clear hx
  go_enter Tryz.func189, Tryz.ntmps189
  go_wp2_with fail
  go_ret
  exact ⟨by first | rfl | (congr 2; omega), HX.out⟩
set_option maxHeartbeats 400000 in
theorem yfree_of (ix ar ct : Nat) (ha : ar ≤ 1) (w : World) :
    Calls Tryz.prog 95 #[.agg #[.int .i64 (ix : Int), .int .i64 (ar : Int), .int .i64 (ct : Int)]] w fun e w' => e = .returned (.int .i64 ((if ix = 0 then 0 else 1 - ar : Nat) : Int)) ∧ Ext w w' := by
  have hx : Ext w (w.alloc (.cells #[.int .i64 (ix : Int), .int .i64 (ar : Int), .int .i64 (ct : Int)] 158)) := (Ext.refl w).alloc _
  have HX := Lib.hid hx
  clear hx
  by_cases h : ix = 0
  · subst h
    go_enter Tryz.func95, Tryz.ntmps95
    go_wp2_with fail
    go_ret
    exact ⟨rfl, HX.out⟩
  · rw [if_neg h, show ((1 - ar : Nat) : Int) = 1 - (ar : Int) by omega]
    have hne : ((ix : Int) == 0) = false := by simpa using h
    go_enter Tryz.func95, Tryz.ntmps95
    go_wp2_with fail
    go_ret
    exact ⟨by first | rfl | (congr 2; omega), HX.out⟩
set_option maxHeartbeats 800000 in
theorem ymay_of (ix ar ct : Nat) (hct : ct ≤ 8) (k : Int) (A : Option Addr) (n c : Nat) (l : List Nat) (w : World) (hb : By w A n c l) :
    Calls Tryz.prog 105 #[.agg #[.int .i64 (ix : Int), .int .i64 (ar : Int), .int .i64 (ct : Int)], .int .i64 k, .slice A n c] w fun e w' => e = .returned (.bool (fitsZ k ct n)) ∧ Ext w w' := by
  have hx : Ext w (w.alloc (.cells #[.int .i64 (ix : Int), .int .i64 (ar : Int), .int .i64 (ct : Int)] 158)) := (Ext.refl w).alloc _
  have HX := Lib.hid hx
  have HB := Lib.hid hb
  clear hx hb
  by_cases h0 : ct = 0
  · subst h0
    have hf : fitsZ k 0 n = false := by
      unfold fitsZ fitsC
      rw [decide_eq_false (p := 1 ≤ 0 ∧ _) (by omega), Bool.and_false]
    rw [hf]
    clear hf
    go_enter Tryz.func105, Tryz.ntmps105
    go_wp2_with fail
    refine (znew_no 0 (by decide) _).mono ?_
    rintro e w1 ⟨rfl, rfl⟩
    go_wp2_with fail
    refine (zput_nil (.inl rfl) k A n c).mono ?_
    rintro e w1 ⟨rfl, rfl⟩
    go_wp2_with fail
    go_ret
    exact ⟨rfl, HX.out⟩
  · have hc : 1 ≤ ct ∧ ct ≤ 8 := by omega
    obtain ⟨b, hf⟩ : ∃ b, fitsZ k ct n = b := ⟨_, rfl⟩
    rw [hf]
    have HF := Lib.hid hf
    clear hf
    go_enter Tryz.func105, Tryz.ntmps105
    go_wp2_with fail
    refine (znew_yes ct hc _).mono ?_
    rintro e w1 ⟨h, bm, rfl, hz, hx, hh, hbm⟩
    have HX1 := Lib.hid (HX.out.trans hx)
    have HZ := Lib.hid hz
    have HBM : Hid (w.heap.size ≤ bm) := Lib.hid (Nat.le_trans HX.out.size hbm)
    clear hz hx hh hbm
    cases b with
    | true =>
      go_wp2_with fail
      refine (zput_yes HZ.out (by omega) k A n c l (HB.out.ext HX1.out) HF.out).mono ?_
      rintro e w2 ⟨rfl, a, _, _, hm⟩
      have HX2 : Hid (Ext w w2) := Lib.hid (Below.mod HX1.out hm HX1.out.size fun i hi => hi ▸ HBM.out)
      clear hm
      go_wp2_with fail
      go_ret
      exact ⟨rfl, HX2.out⟩
    | false =>
      go_wp2_with fail
      refine (zput_no HZ.out k A n c HF.out).mono ?_
      rintro e w2 ⟨rfl, rfl⟩
      go_wp2_with fail
      go_ret
      exact ⟨rfl, HX1.out⟩
set_option maxHeartbeats 400000 in
theorem yindex_of {w : World} {g d : Nat} {r inc : Int} {s : ShM} (h : ShAt w g d r inc s) : Calls Tryz.prog 46 #[.pointer (some ⟨g, 0, none⟩)] w fun e w' => e = .returned (.int .i64 (s.ix : Int)) ∧ w = w' := by
  obtain ⟨c0, c1, c2, c3, c4, c5, c6⟩ := h.cells
  have HM := Lib.hid (ymade_yes g w c0)
  clear h c0 c1 c2 c3 c5 c6
  go_enter Tryz.func46, Tryz.ntmps46
  go_wp2_with fail
  refine HM.out.mono ?_
  rintro e w1 ⟨rfl, rfl⟩
  go_wp2_with fail
  go_ret
  exact ⟨rfl, rfl⟩
set_option maxHeartbeats 400000 in
theorem ycount_of {w : World} {g d : Nat} {r inc : Int} {s : ShM} (h : ShAt w g d r inc s) : Calls Tryz.prog 48 #[.pointer (some ⟨g, 0, none⟩)] w fun e w' => e = .returned (.int .i64 (s.ct : Int)) ∧ w = w' := by
  obtain ⟨c0, c1, c2, c3, c4, c5, c6⟩ := h.cells
  have HM := Lib.hid (ymade_yes g w c0)
  clear h c0 c1 c2 c3 c4 c5
  go_enter Tryz.func48, Tryz.ntmps48
  go_wp2_with fail
  refine HM.out.mono ?_
  rintro e w1 ⟨rfl, rfl⟩
  go_wp2_with fail
  go_ret
  exact ⟨rfl, rfl⟩
end
section
structure WtY (m0 m : DM) (pw : Int) (Z : List (Nat × List Nat)) : Prop where
  b : CB m Z
  dead : m.dead = false
  power : m.power = pw
  rest : m.rest = m0.rest
  lost : m.lost = m0.lost
section
variable {m0 m : DM} {pw : Int} {Z : List (Nat × List Nat)}
theorem WtY.begin_ (h : CD m pw) : WtY m m pw [] := ⟨h.b, h.dead, h.power, rfl, rfl⟩
theorem WtY.up (h : WtY m0 m pw Z) : m.up = true := by unfold DM.up; rw [h.b.down, h.dead]; rfl
theorem WtY.has (h : WtY m0 m pw Z) {s : Nat} (hs : s < 156) : m.has (s : Int) = true := DM.has_iff.2 ⟨by omega, by rw [h.b.size]; omega⟩
theorem WtY.write (h : WtY m0 m pw Z) (hp : pw ≠ 0) {s : Nat} {L : List Nat} (hs : s < 156) (hL : Sect L) : ∃ m', m.write (s : Int) L = (0, m') ∧ WtY m0 m' (lessP pw) (Z ++ [(s, L)]) := by
  have hok := DM.write_ok h.b.ok (s : Int) hL.2
  have e : m.write (s : Int) L = (0, { m with power := lessP pw, waits := Z ++ [(s, L)] }) := by
    unfold DM.write
    rw [if_neg (by rw [h.up]; simp), if_neg (by rw [h.has hs, hL.1]; simp), if_neg (by rw [h.power]; exact hp), h.power, h.b.waits, Int.toNat_natCast]
  rw [e] at hok
  exact ⟨_, e, ⟨hok, h.b.size, rfl, h.b.down⟩, h.dead, rfl, h.rest, h.lost⟩
theorem WtY.write0 (h : WtY m0 m 0 Z) {s : Nat} {L : List Nat} (hs : s < 156) (hL : Sect L) : (m.write (s : Int) L).1 = 5 := by
  unfold DM.write
  rw [if_neg (by rw [h.up]; simp), if_neg (by rw [h.has hs, hL.1]; simp), if_pos h.power]
theorem WtY.flush (h : WtY m0 m pw Z) (hp : pw ≠ 0) : ∃ m', m.flush = (0, m') ∧ CD m' (lessP pw) ∧ ∀ t, m'.hold t = (lastW Z t).getD (m0.hold t) := by
  have hok := DM.flush_ok h.b.ok
  have e : m.flush = (0, { ({ m with power := lessP pw } : DM).comes Z with waits := [] }) := by
    unfold DM.flush
    rw [if_neg (by rw [h.up]; simp), if_neg (by rw [h.power]; exact hp), h.power, h.b.waits]
  rw [e] at hok
  obtain ⟨w1, w2, w3, w4⟩ := DM.comes_waits Z ({ m with power := lessP pw } : DM)
  have hp1 : -1 ≤ lessP pw := by have := lessP_le h.b.ok.power; rw [h.power] at this; exact this
  have hok2 : ({ m with power := lessP pw } : DM).Ok := ⟨h.b.ok.meant, h.b.ok.lost, h.b.ok.rests, h.b.ok.means, h.b.ok.waits, hp1⟩
  refine ⟨_, e, ⟨⟨hok, ?_, rfl, w2.trans h.b.down⟩, w3.trans h.dead, w4⟩, fun t => ?_⟩
  · show (DM.comes _ _).size = 156
    rw [DM.comes_size]
    exact h.b.size
  · show (DM.comes _ _).hold t = _
    rw [hold_comes hok2 (fun x hx => (h.b.ok.waits x (by rw [h.b.waits]; exact hx)).1)]
    congr 1
    unfold DM.hold
    show (if m.lost.getD t false = true then [] else m.rest.getD t []) = _
    rw [h.rest, h.lost]
theorem WtY.flush0 (h : WtY m0 m 0 Z) : m.flush.1 = 5 := by
  unfold DM.flush
  rw [if_neg (by rw [h.up]; simp), if_pos h.power]
theorem WtY.two (h : WtY m0 m pw Z) (hp : -1 ≤ pw) {s : Nat} {L : List Nat} (hs : s + 1 < 156) (h1 : Sect (L.take 64)) (h2 : Sect (L.drop 64)) :
    (∃ m' q, wrsE (0, m) (s : Int) L 2 = (0, m') ∧ -1 ≤ q ∧ (pw = -1 → q = -1) ∧ WtY m0 m' q (Z ++ [(s, L.take 64), (s + 1, L.drop 64)])) ∨ (pw ≠ -1 ∧ (wrsE (0, m) (s : Int) L 2).1 = 5) := by
  have e0 : (L.drop (64 * 0)).take 64 = L.take 64 := by rw [Nat.mul_zero, List.drop_zero]
  have e1 : (L.drop (64 * 1)).take 64 = L.drop 64 := by rw [Nat.mul_one, List.take_of_length_le (by rw [h2.1]; exact Nat.le_refl _)]
  have w1 : wrsE (0, m) (s : Int) L 1 = m.write (s : Int) (L.take 64) := by
    show unE (0, m) _ = _
    unfold unE
    rw [if_pos rfl]
    simp only
    rw [e0, Int.natCast_zero, Int.add_zero]
  have w2 : wrsE (0, m) (s : Int) L 2 = unE (m.write (s : Int) (L.take 64)) fun m => m.write ((s + 1 : Nat) : Int) (L.drop 64) := by
    show unE (wrsE (0, m) (s : Int) L 1) _ = _
    rw [w1, e1]
    rfl
  have lp : ∀ q : Int, -1 ≤ q → -1 ≤ lessP q ∧ (q = -1 → lessP q = -1) := fun q hq => by unfold lessP; split <;> omega
  rw [w2]
  by_cases hp0 : pw = 0
  · subst hp0
    right
    have := h.write0 (s := s) (by omega) h1
    exact ⟨by omega, by unfold unE; rw [if_neg (by rw [this]; omega)]; exact this⟩
  · obtain ⟨m1, x1, y1⟩ := h.write hp0 (s := s) (by omega) h1
    obtain ⟨l1, l2⟩ := lp pw hp
    rw [x1]
    unfold unE
    rw [if_pos rfl]
    by_cases hq0 : lessP pw = 0
    · rw [hq0] at y1
      right
      exact ⟨fun e => by rw [l2 e] at hq0; omega, y1.write0 (s := s + 1) hs h2⟩
    · obtain ⟨m2, x2, y2⟩ := y1.write hq0 (s := s + 1) hs h2
      obtain ⟨l3, l4⟩ := lp _ l1
      left
      exact ⟨m2, _, x2, l3, fun e => l4 (l2 e), by rw [List.append_assoc] at y2; exact y2⟩
end
theorem mayC {r inc : Int} {s : ShM} {k : Nat} (hr : 0 ≤ r ∧ r ≤ 6) (hc : 1 ≤ inc ∧ inc ≤ 1099511627776) (hs : manOk s = true) (hk : k < 8) : mayB r 5 ((8 * s.ar + k : Nat) : Int) (s.ix : Int) inc = true := by
  have := manOk_iff.1 hs
  rw [mayB_iff]
  have h16 : plc 5 = 16 := rfl
  omega
theorem sealY {r inc : Int} {s : ShM} {k : Nat} {c : List Nat} (hr : 0 ≤ r ∧ r ≤ 6) (hc : 1 ≤ inc ∧ inc ≤ 1099511627776) (hs : manOk s = true) (hk : k < 8) (hn : c.length ≤ 80) : sealE r 5 ((8 * s.ar + k : Nat) : Int) (s.ix : Int) inc (prZL (s.ct : Int) c).length 2 = 0 := by
  refine sealE_yes (by decide) (mayC hr hc hs hk) ?_
  rw [roomN_two]
  unfold prZL
  split
  · rw [List.length_cons]; omega
  · simp
theorem prZL_lt {s : ShM} {c : List Nat} (hs : manOk s = true) (hb : ∀ x ∈ c, x < 256) : ∀ x ∈ prZL (s.ct : Int) c, x < 256 := by
  have := manOk_iff.1 hs
  intro x hx
  unfold prZL at hx
  split at hx
  · rcases List.mem_cons.1 hx with h | h
    · subst h; simp; omega
    · exact hb x h
  · cases hx
theorem frmY_sects {r inc : Int} {s : ShM} {k : Nat} {c : List Nat} (hr : 0 ≤ r ∧ r ≤ 6) (hc : 1 ≤ inc ∧ inc ≤ 1099511627776) (hs : manOk s = true) (hk : k < 8) (hn : c.length ≤ 80) (hb : ∀ x ∈ c, x < 256) :
    Sect ((frmY r inc s k c).take 64) ∧ Sect ((frmY r inc s k c).drop 64) ∧ pair2 ((frmY r inc s k c).take 64) ((frmY r inc s k c).drop 64) = frmY r inc s k c := by
  have hE := sealY hr hc hs hk hn
  have hl : (frmY r inc s k c).length = 128 := by unfold frmY; rw [(sealL_len hE).1]; rfl
  have hb : ∀ z ∈ frmY r inc s k c, z < 256 := sealL_lt (prZL_lt hs hb)
  have h1 : ((frmY r inc s k c).take 64).length = 64 := by rw [List.length_take, hl]; rfl
  have h2 : ((frmY r inc s k c).drop 64).length = 64 := by rw [List.length_drop, hl]
  refine ⟨⟨h1, fun z hz => hb z (List.mem_of_mem_take hz)⟩, ⟨h2, fun z hz => hb z (List.mem_of_mem_drop hz)⟩, ?_⟩
  unfold pair2
  rw [if_neg (by
    rintro (h | h)
    · rw [h] at h1; cases h1
    · rw [h] at h2; cases h2), List.take_append_drop]
theorem frmY_back {r inc : Int} {s : ShM} {k : Nat} {c : List Nat} (hr : 0 ≤ r ∧ r ≤ 6) (hc : 1 ≤ inc ∧ inc ≤ 1099511627776) (hs : manOk s = true) (hf : fitsC k s.ct c.length = true) :
    okC r s k (frmY r inc s k c) = true ∧ bytC r s k (frmY r inc s k c) = c := by
  have hm := manOk_iff.1 hs
  have hf' := fitsC_iff.1 hf
  obtain ⟨h1, _, h3, _, _, _, h4, _⟩ := seal_mine (sealY (k := k) hr hc hs (by omega) (show c.length ≤ 80 by omega))
  have hb : bdZ (s.ct : Int) c = true := bdZ_iff.2 (by omega)
  have hp := paZ_back hb
  have e : okC r s k (frmY r inc s k c) = true := by
    unfold okC frmY
    rw [h1, h3, hp, Int.toNat_natCast]
    exact decide_eq_true ⟨rfl, Int.ofNat.inj h4, rfl, rfl, hf⟩
  refine ⟨e, ?_⟩
  unfold bytC
  rw [if_pos e]
  unfold frmY
  rw [h3, hp]
def prsY (r inc : Int) (s : ShM) : Nat → List (List Nat) → List (Nat × List Nat)
  | _, [] => []
  | k, c :: l => [(sC (8 * s.ar + k), (frmY r inc s k c).take 64), (sC (8 * s.ar + k) + 1, (frmY r inc s k c).drop 64)] ++ prsY r inc s (k + 1) l
theorem prsY_low {r inc : Int} {s : ShM} : ∀ (l : List (List Nat)) (k : Nat), ∀ x ∈ prsY r inc s k l, sC (8 * s.ar + k) ≤ x.1 ∧ x.1 < sC (8 * s.ar + k + l.length)
  | [], k, x, h => by cases h
  | c :: l, k, x, h => by
    rcases List.mem_append.1 h with h | h
    · simp only [List.mem_cons, List.not_mem_nil, or_false] at h
      rw [List.length_cons]
      rcases h with h | h <;> (subst h; dsimp only; unfold sC; omega)
    · have := prsY_low l (k + 1) x h
      rw [List.length_cons]
      unfold sC at *
      omega
theorem lastW_append (a : List (Nat × List Nat)) : ∀ (b : List (Nat × List Nat)) (t : Nat), lastW (a ++ b) t = (lastW b t).or (lastW a t) := by
  intro b t
  induction a with
  | nil =>
    show lastW b t = (lastW b t).or none
    cases lastW b t <;> rfl
  | cons x a ih =>
    show (lastW (a ++ b) t).or _ = (lastW b t).or ((lastW a t).or _)
    rw [ih]
    cases lastW b t <;> rfl
theorem prsY_get {r inc : Int} {s : ShM} : ∀ (l : List (List Nat)) (k j : Nat), j < l.length → lastW (prsY r inc s k l) (sC (8 * s.ar + (k + j))) = some ((frmY r inc s (k + j) (l.getD j [])).take 64) ∧ lastW (prsY r inc s k l) (sC (8 * s.ar + (k + j)) + 1) = some ((frmY r inc s (k + j) (l.getD j [])).drop 64)
  | [], k, j, h => by cases h
  | c :: l, k, 0, _ => by
    have hn : ∀ d, d ≤ 1 → lastW (prsY r inc s (k + 1) l) (sC (8 * s.ar + (k + 0)) + d) = none := fun d hd => lastW_none fun x hx e => by
      have := prsY_low l (k + 1) x hx
      unfold sC at *
      omega
    have h0 : lastW (prsY r inc s (k + 1) l) (sC (8 * s.ar + (k + 0))) = none := hn 0 (by omega)
    have h1 := hn 1 (by omega)
    have e : ∀ t, lastW (prsY r inc s k (c :: l)) t = (lastW (prsY r inc s (k + 1) l) t).or (lastW [(sC (8 * s.ar + k), (frmY r inc s k c).take 64), (sC (8 * s.ar + k) + 1, (frmY r inc s k c).drop 64)] t) := fun t => lastW_append _ _ t
    rw [e, e, h0, h1]
    simp [lastW]
  | c :: l, k, j + 1, h => by
    obtain ⟨h1, h2⟩ := prsY_get (r := r) (inc := inc) (s := s) l (k + 1) j (by simpa using h)
    rw [show k + 1 + j = k + (j + 1) from by omega] at h1 h2
    have e : ∀ t, lastW (prsY r inc s k (c :: l)) t = (lastW (prsY r inc s (k + 1) l) t).or (lastW [(sC (8 * s.ar + k), (frmY r inc s k c).take 64), (sC (8 * s.ar + k) + 1, (frmY r inc s k c).drop 64)] t) := fun t => lastW_append _ _ t
    rw [e, e, h1, h2]
    exact ⟨rfl, rfl⟩
section
variable {r inc : Int} {s : ShM} {m : DM} {pw : Int}
theorem wrsY_run (hr : 0 ≤ r ∧ r ≤ 6) (hc : 1 ≤ inc ∧ inc ≤ 1099511627776) (hs : manOk s = true) {m0 : DM} : ∀ (l : List (List Nat)) (m : DM) (pw : Int) (Z : List (Nat × List Nat)) (k : Nat), k + l.length ≤ 8 → (∀ c ∈ l, c.length ≤ 80 ∧ ∀ x ∈ c, x < 256) → WtY m0 m pw Z → -1 ≤ pw →
    (∃ m' q, wrsY r inc s (0, m) k l = (0, m') ∧ -1 ≤ q ∧ (pw = -1 → q = -1) ∧ WtY m0 m' q (Z ++ prsY r inc s k l)) ∨ (pw ≠ -1 ∧ (wrsY r inc s (0, m) k l).1 = 5)
  | [], m, pw, Z, k, _, _, h, hp => .inl ⟨m, pw, rfl, hp, fun e => e, by rw [show prsY r inc s k [] = [] from rfl, List.append_nil]; exact h⟩
  | c :: l, m, pw, Z, k, hk, hl, h, hp => by
    rw [List.length_cons] at hk
    have hm := manOk_iff.1 hs
    obtain ⟨hn, hb⟩ := hl c (List.mem_cons_self ..)
    obtain ⟨s1, s2, _⟩ := frmY_sects (r := r) (inc := inc) (s := s) (k := k) hr hc hs (by omega) hn hb
    have hf : firstS 5 ((8 * s.ar + k : Nat) : Int) = (sC (8 * s.ar + k) : Nat) := first5 (by omega)
    show (∃ m' q, wrsY r inc s (wrsE (0, m) (firstS 5 ((8 * s.ar + k : Nat) : Int)) (frmY r inc s k c) 2) (k + 1) l = (0, m') ∧ _) ∨ (_ ∧ (wrsY r inc s (wrsE (0, m) (firstS 5 ((8 * s.ar + k : Nat) : Int)) (frmY r inc s k c) 2) (k + 1) l).1 = 5)
    rw [hf]
    rcases h.two hp (s := sC (8 * s.ar + k)) (sC_lt (by omega)) s1 s2 with ⟨m1, q, e1, hq, hpq, h1⟩ | ⟨hne, e1⟩
    · rw [e1]
      rcases wrsY_run hr hc hs l m1 q _ (k + 1) (by omega) (fun c hc => hl c (List.mem_cons_of_mem _ hc)) h1 hq with ⟨m2, q2, e2, hq2, hpq2, h2⟩ | ⟨hne, e2⟩
      · exact .inl ⟨m2, q2, e2, hq2, fun e => hpq2 (hpq e), by rw [List.append_assoc] at h2; exact h2⟩
      · exact .inr ⟨fun e => hne (hpq e), e2⟩
    · obtain ⟨⟨E, m1⟩, hx⟩ : ∃ x, wrsE (0, m) ((sC (8 * s.ar + k) : Nat) : Int) (frmY r inc s k c) 2 = x := ⟨_, rfl⟩
      rw [hx] at e1 ⊢
      have e1 : E = 5 := e1
      subst e1
      rw [wrsY_err r inc s (by omega)]
      exact .inr ⟨hne, rfl⟩
theorem CD.wrY (h : CD m pw) (hp : -1 ≤ pw) (hr : 0 ≤ r ∧ r ≤ 6) (hc : 1 ≤ inc ∧ inc ≤ 1099511627776) (hs : manOk s = true) {k : Nat} {l : List (List Nat)} (hk : k + l.length ≤ 8) (hl : ∀ c ∈ l, c.length ≤ 80 ∧ ∀ x ∈ c, x < 256) :
    (∃ m' q, m.wrY r inc s k l = (0, m') ∧ -1 ≤ q ∧ (pw = -1 → q = -1) ∧ CD m' q ∧ ∀ t, m'.hold t = (lastW (prsY r inc s k l) t).getD (m.hold t)) ∨ (pw ≠ -1 ∧ (m.wrY r inc s k l).1 = 5) := by
  have lp : ∀ q : Int, -1 ≤ q → -1 ≤ lessP q ∧ (q = -1 → lessP q = -1) := fun q hq => by unfold lessP; split <;> omega
  unfold DM.wrY
  rcases wrsY_run hr hc hs l m pw [] k hk hl (WtY.begin_ h) hp with ⟨m1, q, e1, hq, hpq, h1⟩ | ⟨hne, e1⟩
  · rw [e1]
    unfold unE
    rw [if_pos rfl]
    rw [List.nil_append] at h1
    by_cases hq0 : q = 0
    · subst hq0
      exact .inr ⟨fun e => by have := hpq e; omega, h1.flush0⟩
    · obtain ⟨m2, e2, c2, g2⟩ := h1.flush hq0
      obtain ⟨l1, l2⟩ := lp q hq
      exact .inl ⟨m2, _, e2, l1, fun e => l2 (hpq e), c2, g2⟩
  · right
    refine ⟨hne, ?_⟩
    unfold unE
    rw [if_neg (by rw [e1]; omega)]
    exact e1
def arT (a t : Nat) : Prop := sC (8 * a) ≤ t ∧ t < sC (8 * a + 8)
theorem Tch.wrsE_ {T : Nat → Prop} {h0 : Nat → List Nat} {E : Int} (h : Tch m T h0) {t : Nat} (h1 : T t) (h2 : T (t + 1)) {L : List Nat} (hb : ∀ x ∈ L, x < 256) : Tch (wrsE (E, m) (t : Int) L 2).2 T h0 := by
  by_cases hE : E = 0
  · subst hE
    have a1 : Tch (wrsE (0, m) (t : Int) L 1).2 T h0 := by
      show Tch (unE (0, m) _).2 T h0
      unfold unE
      rw [if_pos rfl, Int.natCast_zero, Int.add_zero]
      exact h.write h1 fun x hx => hb x (List.mem_of_mem_drop (List.mem_of_mem_take hx))
    show Tch (unE (wrsE (0, m) (t : Int) L 1) _).2 T h0
    unfold unE
    split
    · have := a1.write h2 (L := (L.drop (64 * 1)).take 64) fun x hx => hb x (List.mem_of_mem_drop (List.mem_of_mem_take hx))
      rw [show ((t + 1 : Nat) : Int) = (t : Int) + ((1 : Nat) : Int) from by omega] at this
      exact this
    · exact a1
  · rw [wrs_err hE]
    exact h
theorem Tch.wrsY_ (hs : manOk s = true) {h0 : Nat → List Nat} : ∀ (l : List (List Nat)) (x : Int × DM) (k : Nat), k + l.length ≤ 8 → (∀ c ∈ l, ∀ x ∈ c, x < 256) → Tch x.2 (arT s.ar) h0 → Tch (wrsY r inc s x k l).2 (arT s.ar) h0
  | [], x, k, _, _, h => h
  | c :: l, x, k, hk, hl, h => by
    rw [List.length_cons] at hk
    have hm := manOk_iff.1 hs
    have hf : firstS 5 ((8 * s.ar + k : Nat) : Int) = (sC (8 * s.ar + k) : Nat) := first5 (by omega)
    show Tch (wrsY r inc s (wrsE x (firstS 5 ((8 * s.ar + k : Nat) : Int)) (frmY r inc s k c) 2) (k + 1) l).2 _ _
    rw [hf]
    refine Tch.wrsY_ hs l _ (k + 1) (by omega) (fun c hc => hl c (List.mem_cons_of_mem _ hc)) ?_
    obtain ⟨E, m⟩ := x
    exact h.wrsE_ (by unfold arT sC; omega) (by unfold arT sC; omega) (sealL_lt (prZL_lt hs (hl c (List.mem_cons_self ..))))
theorem Tch.wrY (hd : CD m pw) (hs : manOk s = true) {k : Nat} {l : List (List Nat)} (hk : k + l.length ≤ 8) (hl : ∀ c ∈ l, ∀ x ∈ c, x < 256) : Tch (m.wrY r inc s k l).2 (arT s.ar) m.hold := by
  have h0 : Tch m (arT s.ar) m.hold := ⟨hd.b.ok, hd.b.size, hd.b.down, (fun z hz => by rw [hd.b.waits] at hz; cases hz), fun _ _ => rfl⟩
  have h1 := Tch.wrsY_ (r := r) (inc := inc) hs l (0, m) k hk hl h0
  unfold DM.wrY unE
  split
  · exact h1.flush
  · exact h1
end
end
section
section
variable {m : DM} {pw : Int} {r : Int} {v : Nat} {b : List Nat}
theorem TwoU.storing2 (h : TwoU r m 2 v b) (hr : 0 ≤ r ∧ r < 7) (hd : CD m pw) (hp : -1 ≤ pw) (hv : v < 1099511627776) {c : Int} (hc : 1 ≤ c ∧ c ≤ 1099511627776) {body : List Nat} (hn : body.length ≤ 43) (hb : ∀ x ∈ body, x < 256) :
    ∃ m', (m.store r 2 c body = (0, m') ∧ ∃ q, -1 ≤ q ∧ (pw = -1 → q = -1) ∧ CD m' q ∧ TwoU r m' 2 (v + 1) body) ∨ (pw ≠ -1 ∧ m.store r 2 c body = (5, m') ∧ After m' fun n => SomeU r n 2 v b ∨ SomeU r n 2 (v + 1) body) := by
  obtain ⟨c, rfl⟩ := Int.eq_ofNat_of_zero_le (show 0 ≤ c by omega)
  have hc : 1 ≤ c ∧ c ≤ 1099511627776 := by omega
  have g1 : (2 : Int) = 1 ∨ (2 : Int) = 2 := .inr rfl
  by_cases hk : pw = -1 ∨ 4 ≤ pw
  · obtain ⟨f, o, hf, ho, _, _, hs⟩ := h.store hd g1 hv hc hn
    have ho1 : o ≤ 1 := by omega
    obtain ⟨m', q, e, h1, h2, h3⟩ := hd.two_ok (a := secV 2 f) (b := secV 2 o) hk (secV_lt g1 hf) (secV_lt g1 ho1) (sealC_sect (may_newU hr g1 hf hv hc) hn hb) (sealC_sect (may_newU hr g1 ho1 hv hc) hn hb)
    have n0 := cop_sealU (may_newU hr g1 (p := 0) (by omega) hv hc) hn
    have n1 := cop_sealU (may_newU hr g1 (p := 1) (by omega) hv hc) hn
    refine ⟨m', .inl ⟨hs.trans e, q, ?_, h2, h1, .inr ⟨by omega, c, c, ?_, ?_⟩⟩⟩
    · have := h1.b.ok.power
      rw [h1.power] at this
      exact this
    · have hff : f = 0 ∨ f = 1 := by omega
      rcases hff with rfl | rfl
      · obtain rfl : o = 1 := by omega
        rw [h3, if_neg secV_ne, if_pos rfl]; exact n0
      · obtain rfl : o = 0 := by omega
        rw [h3, if_pos rfl]; exact n0
    · have hff : f = 0 ∨ f = 1 := by omega
      rcases hff with rfl | rfl
      · obtain rfl : o = 1 := by omega
        rw [h3, if_pos rfl]; exact n1
      · obtain rfl : o = 0 := by omega
        rw [h3, if_neg (fun e => secV_ne e.symm), if_pos rfl]; exact n1
  · obtain ⟨k, rfl⟩ := Int.eq_ofNat_of_zero_le (show 0 ≤ pw by omega)
    refine ⟨(m.store r 2 (c : Int) body).2, .inr ⟨by omega, ?_, fun keep => ?_⟩⟩
    · have := (h.power hr hd g1 hv hc hn hb []).1
      rw [if_pos (by omega)] at this
      exact Prod.ext this rfl
    · obtain ⟨_, h2, h3, h4, h5, _⟩ := h.power hr hd g1 hv hc hn hb keep
      exact ⟨h2, h3, h4, h5⟩
end
end
end Go.Proofs.YtgcinagkbdcgiaaGreatDoor

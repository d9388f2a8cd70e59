/-
  The contracts of a heap's Put, Lose, Get, Whole.
-/
import Derived.Test.YtmpaocpgoihliaaGreatDoorP00
import Derived.Test.YtmpaocpgoihliaaGreatDoorP01
import Derived.Test.YtmpaocpgoihliaaGreatDoorP05
import Derived.Test.YtmpaocpgoihliaaGreatDoorP06
import Derived.Test.YtmpaocpgoihliaaGreatDoorP07
import Derived.Test.YtmpaocpgoihliaaGreatDoorP11
import Derived.Test.YtmpaocpgoihliaaGreatDoorP12
import Derived.Test.YtmpaocpgoihliaaGreatDoorP13
import Derived.Test.YtmpaocpgoihliaaGreatDoorP14
import Derived.Deep.RegionHeld3
import Derived.Laws.EntriesVeiled
import Derived.Deep.DeepCutAuto
import Derived.LoopN
import Derived.Lib.Hide
namespace Go.Proofs.YtmpaocpgoihliaaGreatDoor
set_option maxRecDepth 100000
section
open Go Go.RowKit Go.Maps
theorem ext_cellZ2 {w w' : World} {a : Addr} {v : Value} (h : Ext w w') (hc : w.cell? a = some v) : w'.cell? a = some v := (Below.cell h (p := a) (World.block_lt_of_cell? w _ hc)).trans hc
theorem mod_cellZ {F : Nat → Prop} {w w' : World} (k : Mod F w w') {g i : Nat} {v : Value} (hg : ¬ F g) (h : w.cell? ⟨g, i, none⟩ = some v) : w'.cell? ⟨g, i, none⟩ = some v := mod_cell k hg h
section
variable {w w' : World} {h count bm nb : Nat} {f : Int → Option Lst}
theorem ZH.put (z : ZH w h count bm nb f) {w1 w2 : World} {k : Int} {a : Lst} (hk : 0 ≤ k ∧ k < (count : Int)) (hx : Ext w w1) (hb : By w1 a.A a.n a.c a.l) (hn : a.n ≤ 80) (hfr : ∀ p, a.A = some p → w.heap.size ≤ p.block) (hm : MapZ w2 bm (nb + 1) (updZ f k (some a))) (ht : w1.mapTurned w2 bm) :
 ZH w2 h count bm (nb + 1) (updZ f k (some a)) := by
 have hmo := turned_mod ht
 have hbm := z.map.lt
 refine ⟨heap_mod ((z.ext hx).row) hmo z.ne, hm, fun j hj => ?_, fun j b hjb => ?_, z.cnt⟩
 ·unfold updZ at hj
  split at hj
  ·rename_i e; rw [e]; exact hk
  ·exact z.rng j hj
 ·unfold updZ at hjb
  split at hjb
  ·injection hjb with hjb
   subst hjb
   have hne : ∀ p, a.A = some p → p.block ≠ bm := fun p hp => by have := hfr p hp; omega
   exact ⟨By.mod hb hmo fun p hp e => hne p hp e, hn, hne⟩
  ·obtain ⟨h1, h2, h3⟩ := z.each j b hjb
   exact ⟨By.mod (h1.ext hx) hmo fun p hp e => h3 p hp e, h2, h3⟩
end
set_option maxHeartbeats 800000 in
theorem zput_no {w : World} {h count bm nb : Nat} {f : Int → Option Lst} (z : ZH w h count bm nb f) (k : Int) (A : Option Addr) (n c : Nat) (hf : fitsZ k count n = false) :
 Calls Tryz.prog 173 #[.pointer (some ⟨h, 0, none⟩), .int .i64 k, .slice A n c] w fun e w' => e = .returned (.int .i64 2) ∧ w = w' := by
 have HM := Lib.hid (zmade_yes h w z.cells.1)
 have hy := zmay_of count z.cnt k A n c w
 rw [hf] at hy
 have HY := Lib.hid hy
 obtain ⟨c0, c1, c2⟩ := z.cells
 clear hf hy z
 go_enter Tryz.func173, Tryz.ntmps173
 go_wp2_with fail
 refine HM.out.mono ?_
 rintro e w1 ⟨rfl, rfl⟩
 go_wp2_with fail
 refine HY.out.mono ?_
 rintro e w1 ⟨rfl, rfl⟩
 go_wp2_with fail
 go_ret
 exact ⟨rfl, rfl⟩
set_option maxHeartbeats 800000 in
theorem zput_yes {w : World} {h count bm nb : Nat} {f : Int → Option Lst} (z : ZH w h count bm nb f) (hnb : nb ≤ 1000) (k : Int) (A : Option Addr) (n c : Nat) (l : List Nat) (hb : By w A n c l) (hf : fitsZ k count n = true) :
 Calls Tryz.prog 173 #[.pointer (some ⟨h, 0, none⟩), .int .i64 k, .slice A n c] w fun e w' => e = .returned (.int .i64 0) ∧ ∃ a : Lst, a.l = l ∧ ZH w' h count bm (nb + 1) (updZ f k (some a)) ∧ Mod (fun i => i = bm) w w' := by
 have HM := Lib.hid (zmade_yes h w z.cells.1)
 have hy := zmay_of count z.cnt k A n c w
 rw [hf] at hy
 have HY := Lib.hid hy
 have hk : 0 ≤ k ∧ k < (count : Int) ∧ n ≤ 80 := by
  rw [fitsZ_eq z.cnt, Bool.and_eq_true, inZ_iff, inZ_iff] at hf
  omega
 obtain ⟨hk0, hkc, hn80⟩ := hk
 have hwf : (Lit.int .i64 k).wf = true := WalkArith.wf_i64 (by have := z.cnt; omega)
 have HCL := Lib.hid (sclone_by A l n c w.drew (hb.ext (Ext.refl w).drew) (by omega))
 have HST := Lib.hid (fun (V : World) (hV : MapZ V bm nb f) (a : Lst) => hV.store hwf (by unfold maxLen; omega) a)
 obtain ⟨c0, c1, c2⟩ := z.cells
 have HZ := Lib.hid z
 have hS0 : w.drew.cell? ⟨h, 2, none⟩ = some (.map (some bm)) := c2
 clear hf hy z hb
 go_enter Tryz.func173, Tryz.ntmps173
 go_wp2_with fail
 refine HM.out.mono ?_
 rintro e w1 ⟨rfl, rfl⟩
 go_wp2_with fail
 refine HY.out.mono ?_
 rintro e w1 ⟨rfl, rfl⟩
 go_wp2_with fail
 go_region_held3 (fun w' => w'.cell? ⟨h, 2, none⟩ = some (.map (some bm)))
  (first | with_reducible exact hS0 | with_reducible exact hS1 | with_reducible exact hS2 | with_reducible assumption)
  (first
   | (go_at_call 165; ((with_reducible refine HCL.out.mono ?_); rintro e' w3 ⟨A', c', rfl, hby, hx, hown⟩; have HX := Lib.hid (Ext.trans (Ext.refl w).drew hx); have HBY := Lib.hid hby; have HFR := Lib.hid (own_fresh hown); have hS1 := ext_cellZ2 hx hS0; obtain ⟨w4, hrun, hmz, htn⟩ := HST.out w3 (HZ.out.map.ext HX.out) ⟨A', n, c', l⟩; have hS2 := mod_cellZ (turned_mod htn) HZ.out.ne hS1; have HMZ := Lib.hid hmz; have HTN := Lib.hid htn; clear hby hx hown hmz htn)))
 go_wp2_with fail
 go_ret
 refine ⟨rfl, ⟨A', n, c', l⟩, rfl, HZ.out.put ⟨hk0, hkc⟩ HX.out HBY.out hn80 (fun p hp => (HFR.out p hp).1) HMZ.out HTN.out, ?_⟩
 exact (Mod.of_ext HX.out).trans (turned_mod HTN.out) fun i hi => .inl hi
end
section
open Go Go.RowKit Go.Maps
section
variable {w : World} {p : Option Addr}
set_option maxHeartbeats 400000 in
theorem zput_nil (hp : UnmadeZ w p) (k : Int) (A : Option Addr) (n c : Nat) : Calls Tryz.prog 173 #[.pointer p, .int .i64 k, .slice A n c] w fun e w' => e = .returned (.int .i64 1) ∧ w = w' := by
 have HM := Lib.hid (zmade_no p w hp)
 clear hp
 go_enter Tryz.func173, Tryz.ntmps173
 go_wp2_with fail
 refine HM.out.mono ?_
 rintro e w1 ⟨rfl, rfl⟩
 go_wp2_with fail
 go_ret
 exact ⟨rfl, rfl⟩
end
end
section
open Go Go.RowKit
structure ShAt (w : World) (g d : Nat) (r inc : Int) (s : ShM) : Prop where
 row : w.heap[g]? = some (.cells #[.pointer (some ⟨g, 0, none⟩), .pointer (some ⟨d, 0, none⟩), .int .i64 r, .int .i64 inc, .int .i64 (s.ix : Int), .int .i64 (s.ar : Int), .int .i64 (s.ct : Int)] 142 (0, 0))
section
variable {w w' : World} {g d : Nat} {r inc : Int} {s : ShM}
theorem ShAt.lt (h : ShAt w g d r inc s) : g < w.heap.size := (Array.getElem?_eq_some_iff.1 h.row).1
theorem ShAt.cells (h : ShAt w g d r inc s) : w.cell? ⟨g, 0, none⟩ = some (.pointer (some ⟨g, 0, none⟩)) ∧ w.cell? ⟨g, 1, none⟩ = some (.pointer (some ⟨d, 0, none⟩)) ∧ w.cell? ⟨g, 2, none⟩ = some (.int .i64 r) ∧ w.cell? ⟨g, 3, none⟩ = some (.int .i64 inc) ∧ w.cell? ⟨g, 4, none⟩ = some (.int .i64 (s.ix : Int)) ∧ w.cell? ⟨g, 5, none⟩ = some (.int .i64 (s.ar : Int)) ∧ w.cell? ⟨g, 6, none⟩ = some (.int .i64 (s.ct : Int)) :=
 ⟨cell_of_row w g 0 _ _ _ h.row, cell_of_row w g 1 _ _ _ h.row, cell_of_row w g 2 _ _ _ h.row, cell_of_row w g 3 _ _ _ h.row, cell_of_row w g 4 _ _ _ h.row, cell_of_row w g 5 _ _ _ h.row, cell_of_row w g 6 _ _ _ h.row⟩
theorem ShAt.ext (h : ShAt w g d r inc s) (hx : Ext w w') : ShAt w' g d r inc s := ⟨(hx.block _ h.lt).trans h.row⟩
theorem ShAt.mod {F : Nat → Prop} (h : ShAt w g d r inc s) (hm : Mod F w w') (hF : ¬ F g) : ShAt w' g d r inc s := ⟨(hm.block g h.lt hF).trans h.row⟩
end
theorem eqlY_self (a : Addr) (w : World) : (binOp .eql 76 (.pointer (some a)) (.pointer (some a))).run Tryz.prog w = .ok (.bool true) w := by
 have hi : (Tryz.prog.info? 142).isSome = true := by kernel_rfl
 obtain ⟨j, hj⟩ := Option.isSome_iff_exists.1 hi
 exact run_eql_ptr_same w a Tryz.underlying76 hj
set_option maxHeartbeats 400000 in
theorem ymade_yes (g : Nat) (w : World) (h : w.cell? ⟨g, 0, none⟩ = some (.pointer (some ⟨g, 0, none⟩))) :
 Calls Tryz.prog 73 #[.pointer (some ⟨g, 0, none⟩)] w fun e w' => e = .returned (.bool true) ∧ w = w' := by
 have he := eqlY_self
 go_enter Tryz.func73, Tryz.ntmps73
 go_wp2
 go_ret
 exact ⟨rfl, rfl⟩
set_option maxHeartbeats 400000 in
theorem ywithin_of (a b c : Int) (w : World) : Calls Tryz.prog 67 #[.int .i64 a, .int .i64 b, .int .i64 c] w fun e w' => e = .returned (.bool (inI a b c)) ∧ w = w' := by
 by_cases h : a ≤ b
 ·have hi : inI a b c = decide (b ≤ c) := by unfold inI; rw [decide_eq_true h, Bool.true_and]
  rw [hi]
  clear hi
  go_enter Tryz.func67, Tryz.ntmps67
  go_wp2_with fail
  go_ret
  exact ⟨rfl, rfl⟩
 ·have hi : inI a b c = false := by unfold inI; rw [decide_eq_false h, Bool.false_and]
  rw [hi]
  clear hi
  go_enter Tryz.func67, Tryz.ntmps67
  go_wp2_with fail
  go_ret
  exact ⟨rfl, rfl⟩
theorem inI_iff {a b c : Int} : inI a b c = true ↔ a ≤ b ∧ b ≤ c := by unfold inI; simp
set_option maxHeartbeats 400000 in
theorem yplace_of (ix ar ct k : Nat) (ha : ar ≤ 1) (hk : k ≤ 100) (w : World) :
 Calls Tryz.prog 167 #[.agg #[.int .i64 (ix : Int), .int .i64 (ar : Int), .int .i64 (ct : Int)], .int .i64 (k : Int)] w fun e w' => e = .returned (.int .i64 ((8 * ar + k : Nat) : Int)) ∧ Ext w w' := by
 have hx : Ext w (w.alloc (.cells #[.int .i64 (ix : Int), .int .i64 (ar : Int), .int .i64 (ct : Int)] 137)) := (Ext.refl w).alloc _
 have HX := Lib.hid hx
 clear hx
 go_enter Tryz.func167, Tryz.ntmps167
 go_wp2_with fail
 go_ret
 exact ⟨by first | rfl | (congr 2; omega), HX.out⟩
set_option maxHeartbeats 400000 in
theorem yfree_of (ix ar ct : Nat) (ha : ar ≤ 1) (w : World) :
 Calls Tryz.prog 75 #[.agg #[.int .i64 (ix : Int), .int .i64 (ar : Int), .int .i64 (ct : Int)]] w fun e w' => e = .returned (.int .i64 ((if ix = 0 then 0 else 1 - ar : Nat) : Int)) ∧ Ext w w' := by
 have hx : Ext w (w.alloc (.cells #[.int .i64 (ix : Int), .int .i64 (ar : Int), .int .i64 (ct : Int)] 137)) := (Ext.refl w).alloc _
 have HX := Lib.hid hx
 clear hx
 by_cases h : ix = 0
 ·subst h
  go_enter Tryz.func75, Tryz.ntmps75
  go_wp2_with fail
  go_ret
  exact ⟨rfl, HX.out⟩
 ·rw [if_neg h, show ((1 - ar : Nat) : Int) = 1 - (ar : Int) by omega]
  have hne : ((ix : Int) == 0) = false := by simpa using h
  go_enter Tryz.func75, Tryz.ntmps75
  go_wp2_with fail
  go_ret
  exact ⟨by first | rfl | (congr 2; omega), HX.out⟩
set_option maxHeartbeats 800000 in
theorem ymay_of (ix ar ct : Nat) (hct : ct ≤ 8) (k : Int) (A : Option Addr) (n c : Nat) (l : List Nat) (w : World) (hb : By w A n c l) :
 Calls Tryz.prog 85 #[.agg #[.int .i64 (ix : Int), .int .i64 (ar : Int), .int .i64 (ct : Int)], .int .i64 k, .slice A n c] w fun e w' => e = .returned (.bool (fitsZ k ct n)) ∧ Ext w w' := by
 have hx : Ext w (w.alloc (.cells #[.int .i64 (ix : Int), .int .i64 (ar : Int), .int .i64 (ct : Int)] 137)) := (Ext.refl w).alloc _
 have HX := Lib.hid hx
 have HB := Lib.hid hb
 clear hx hb
 by_cases h0 : ct = 0
 ·subst h0
  have hf : fitsZ k 0 n = false := by
   unfold fitsZ fitsC
   rw [decide_eq_false (p := 1 ≤ 0 ∧ _) (by omega), Bool.and_false]
  rw [hf]
  clear hf
  go_enter Tryz.func85, Tryz.ntmps85
  go_wp2_with fail
  refine (znew_no 0 (by decide) _).mono ?_
  rintro e w1 ⟨rfl, rfl⟩
  go_wp2_with fail
  refine (zput_nil (.inl rfl) k A n c).mono ?_
  rintro e w1 ⟨rfl, rfl⟩
  go_wp2_with fail
  go_ret
  exact ⟨rfl, HX.out⟩
 ·have hc : 1 ≤ ct ∧ ct ≤ 8 := by omega
  obtain ⟨b, hf⟩ : ∃ b, fitsZ k ct n = b := ⟨_, rfl⟩
  rw [hf]
  have HF := Lib.hid hf
  clear hf
  go_enter Tryz.func85, Tryz.ntmps85
  go_wp2_with fail
  refine (znew_yes ct hc _).mono ?_
  rintro e w1 ⟨h, bm, rfl, hz, hx, hh, hbm⟩
  have HX1 := Lib.hid (HX.out.trans hx)
  have HZ := Lib.hid hz
  have HBM : Hid (w.heap.size ≤ bm) := Lib.hid (Nat.le_trans HX.out.size hbm)
  clear hz hx hh hbm
  cases b with
  | true =>
   go_wp2_with fail
   refine (zput_yes HZ.out (by omega) k A n c l (HB.out.ext HX1.out) HF.out).mono ?_
   rintro e w2 ⟨rfl, a, _, _, hm⟩
   have HX2 : Hid (Ext w w2) := Lib.hid (Below.mod HX1.out hm HX1.out.size fun i hi => hi ▸ HBM.out)
   clear hm
   go_wp2_with fail
   go_ret
   exact ⟨rfl, HX2.out⟩
  | false =>
   go_wp2_with fail
   refine (zput_no HZ.out k A n c HF.out).mono ?_
   rintro e w2 ⟨rfl, rfl⟩
   go_wp2_with fail
   go_ret
   exact ⟨rfl, HX1.out⟩
set_option maxHeartbeats 400000 in
theorem yindex_of {w : World} {g d : Nat} {r inc : Int} {s : ShM} (h : ShAt w g d r inc s) : Calls Tryz.prog 89 #[.pointer (some ⟨g, 0, none⟩)] w fun e w' => e = .returned (.int .i64 (s.ix : Int)) ∧ w = w' := by
 obtain ⟨c0, c1, c2, c3, c4, c5, c6⟩ := h.cells
 have HM := Lib.hid (ymade_yes g w c0)
 clear h c0 c1 c2 c3 c5 c6
 go_enter Tryz.func89, Tryz.ntmps89
 go_wp2_with fail
 refine HM.out.mono ?_
 rintro e w1 ⟨rfl, rfl⟩
 go_wp2_with fail
 go_ret
 exact ⟨rfl, rfl⟩
set_option maxHeartbeats 400000 in
theorem ycount_of {w : World} {g d : Nat} {r inc : Int} {s : ShM} (h : ShAt w g d r inc s) : Calls Tryz.prog 90 #[.pointer (some ⟨g, 0, none⟩)] w fun e w' => e = .returned (.int .i64 (s.ct : Int)) ∧ w = w' := by
 obtain ⟨c0, c1, c2, c3, c4, c5, c6⟩ := h.cells
 have HM := Lib.hid (ymade_yes g w c0)
 clear h c0 c1 c2 c3 c4 c5
 go_enter Tryz.func90, Tryz.ntmps90
 go_wp2_with fail
 refine HM.out.mono ?_
 rintro e w1 ⟨rfl, rfl⟩
 go_wp2_with fail
 go_ret
 exact ⟨rfl, rfl⟩
end
section
section
variable {m0 m : DM} {pw : Int} {Z : List (Nat × List Nat)}
end
theorem mayC {r inc : Int} {s : ShM} {k : Nat} (hr : 0 ≤ r ∧ r ≤ 6) (hc : 1 ≤ inc ∧ inc ≤ 1099511627776) (hs : manOk s = true) (hk : k < 8) : mayB r 5 ((8 * s.ar + k : Nat) : Int) (s.ix : Int) inc = true := by
 have := manOk_iff.1 hs
 rw [mayB_iff]
 have h16 : plc 5 = 16 := rfl
 omega
theorem sealY {r inc : Int} {s : ShM} {k : Nat} {c : List Nat} (hr : 0 ≤ r ∧ r ≤ 6) (hc : 1 ≤ inc ∧ inc ≤ 1099511627776) (hs : manOk s = true) (hk : k < 8) (hn : c.length ≤ 80) : sealE r 5 ((8 * s.ar + k : Nat) : Int) (s.ix : Int) inc (prZL (s.ct : Int) c).length 2 = 0 := by
 refine sealE_yes (by decide) (mayC hr hc hs hk) ?_
 rw [roomN_two]
 unfold prZL
 split
 ·rw [List.length_cons]; omega
 ·simp
section
variable {r inc : Int} {s : ShM} {m : DM} {pw : Int}
end
end
section
section
variable {m : DM} {pw : Int} {r : Int} {v : Nat} {b : List Nat}
end
end
section
section
variable {m : DM} {pw : Int} {r : Int} {s : ShM} {b : List Nat}
end
section
variable {m : DM} {pw : Int} {r inc : Int} {s : ShM} {v : Nat} {b : List Nat}
theorem split_each {b : List Nat} (hlt : ∀ x ∈ b, x < 256) : ∀ c ∈ splitL b, c.length ≤ 80 ∧ ∀ x ∈ c, x < 256 := fun c hc => by
 unfold splitL at hc
 obtain ⟨k, _, rfl⟩ := List.mem_map.1 hc
 exact ⟨by rw [chunkL_len]; omega, fun x hx => hlt x (List.mem_of_mem_drop (List.mem_of_mem_take hx))⟩
theorem nextY_ok {i : Nat} (hs : s = {} ∨ manOk s = true) (hi : s.ix < i ∧ i ≤ 1099511627752) (hb : b.length ≤ 640) : manOk (nextY s i (chunkN b.length)) = true := by
 have hn := chunkN_in hb
 have ha : s.ar ≤ 1 := by
  rcases hs with rfl | hs
  ·exact Nat.zero_le _
  ·exact (manOk_iff.1 hs).2.2.1
 refine manOk_iff.2 ⟨by show 1 ≤ i; omega, hi.2, ?_, hn.1, hn.2.1⟩
 show (if s.ix = 0 then 0 else 1 - s.ar) ≤ 1
 split <;> omega
end
end
section
open Go Go.RowKit
section
variable {w w' : World} {g n c a : Nat} {A : Option Addr} {l : List Nat} {sh : Bool}
end
end
section
open Go Go.RowKit
section
variable {w w' w2 : World} {g n c a g2 g3 : Nat} {A : Option Addr} {l : List Nat} {x0 x1 x2 x3 : Value} {sh : Bool}
end
end
section
open Go Go.RowKit
section
variable {w w' w2 : World} {g n c a g2 g3 : Nat} {A : Option Addr} {l : List Nat} {cs : Array Value} {sh : Bool}
end
end
section
open Go Go.RowKit
theorem digs_byte {n : Nat} (h : n < 256) : digs 1 n = [n] := by simp [digs]; omega
theorem fits_byte {n : Nat} (h : n < 256) : fitsB (1 : Nat) n = true := fits_iff.2 ⟨rfl, by omega, by simpa using h⟩
theorem fits_six {n : Nat} (h : n ≤ 1099511627776) : fitsB (6 : Nat) n = true := fits_iff.2 ⟨rfl, by omega, by simp; omega⟩
end
section
open Go Go.RowKit
theorem keep_row {u w' : World} {g : Nat} {ob : Obj} (k : Ext u w') (h : u.heap[g]? = some ob) : w'.heap[g]? = some ob := (k.block g (Array.getElem?_eq_some_iff.1 h).1).trans h
end
section
open Go Go.RowKit
theorem By.none_ (w : World) : By w none 0 0 [] := ⟨rfl, Nat.le_refl _, by omega, Rd.nil_, fun _ => rfl⟩
theorem idx_three (a b c : Int) (w : World) : (Instr.index 183 (.agg #[.int .i64 a, .int .i64 b, .int .i64 c]) (.int .i64 0)).run Tryz.prog w = .ok (.int .i64 a) w ∧ (Instr.index 183 (.agg #[.int .i64 a, .int .i64 b, .int .i64 c]) (.int .i64 1)).run Tryz.prog w = .ok (.int .i64 b) w ∧ (Instr.index 183 (.agg #[.int .i64 a, .int .i64 b, .int .i64 c]) (.int .i64 2)).run Tryz.prog w = .ok (.int .i64 c) w := by
 refine ⟨?_, ?_, ?_⟩ <;> kernel_rfl
theorem sput6 (n : Nat) (w : World) (hL : Laid w) (hn : n ≤ 1099511627776) :
 Calls Tryz.prog 111 #[.int .i64 6, .int .i64 (n : Int)] w fun e w' => ∃ A' c', e = .returned (.tuple #[.slice A' 6 c', .int .i64 0]) ∧ By w' A' 6 c' (digs 6 n) ∧ Ext w w' := put_by 6 n w hL (fits_six hn)
theorem sput1 (n : Nat) (w : World) (hL : Laid w) (hn : n < 256) :
 Calls Tryz.prog 111 #[.int .i64 1, .int .i64 (n : Int)] w fun e w' => ∃ A' c', e = .returned (.tuple #[.slice A' 1 c', .int .i64 0]) ∧ By w' A' 1 c' [n] ∧ Ext w w' := by
 have h := put_by 1 n w hL (fits_byte hn)
 rw [digs_byte hn] at h
 exact h
theorem sjoin1 {A1 A2 : Option Addr} {c1 c2 : Nat} {l2 : List Nat} (w : World) (h1 : By w A1 0 c1 []) (h2 : By w A2 6 c2 l2) :
 Calls Tryz.prog 103 #[.slice (some ⟨w.heap.size, 0, none⟩) 2 2] (w.alloc (.cells #[.slice A1 0 c1, .slice A2 6 c2] 45)) fun e w' => ∃ A' c', e = .returned (.slice A' 6 c') ∧ By w' A' 6 c' l2 ∧ Ext w w' := join2_by w h1 h2 (by omega)
theorem sjoin2 {A1 A2 : Option Addr} {c1 c2 : Nat} {l1 l2 : List Nat} (w : World) (h1 : By w A1 6 c1 l1) (h2 : By w A2 1 c2 l2) :
 Calls Tryz.prog 103 #[.slice (some ⟨w.heap.size, 0, none⟩) 2 2] (w.alloc (.cells #[.slice A1 6 c1, .slice A2 1 c2] 45)) fun e w' => ∃ A' c', e = .returned (.slice A' 7 c') ∧ By w' A' 7 c' (l1 ++ l2) ∧ Ext w w' := join2_by w h1 h2 (by omega)
theorem sjoin3 {A1 A2 : Option Addr} {c1 c2 : Nat} {l1 l2 : List Nat} (w : World) (h1 : By w A1 7 c1 l1) (h2 : By w A2 1 c2 l2) :
 Calls Tryz.prog 103 #[.slice (some ⟨w.heap.size, 0, none⟩) 2 2] (w.alloc (.cells #[.slice A1 7 c1, .slice A2 1 c2] 45)) fun e w' => ∃ A' c', e = .returned (.slice A' 8 c') ∧ By w' A' 8 c' (l1 ++ l2) ∧ Ext w w' := join2_by w h1 h2 (by omega)
end
section
open Go Go.RowKit
def setL (w : World) (g : Nat) : Nat → List Value → World
 | _, [] => w
 | o, x :: xs => setL (w.setCell ⟨g, o, none⟩ x) g (o + 1) xs
def setA (cs : Array Value) : Nat → List Value → Array Value
 | _, [] => cs
 | o, x :: xs => setA (cs.setIfInBounds o x) (o + 1) xs
theorem row_set1 {w : World} {g i : Nat} {cs : Array Value} {t : TypeId} (h : w.heap[g]? = some (.cells cs t (0, 0))) (v : Value) : (w.setCell ⟨g, i, none⟩ v).heap[g]? = some (.cells (cs.setIfInBounds i v) t (0, 0)) := by
 rw [setCell_eq_setRow w g i _ _ _ v h]
 exact setRow_heap w g _ (cs.setIfInBounds i v) _ _ h
theorem row_setL {g : Nat} {t : TypeId} : ∀ (xs : List Value) (w : World) (o : Nat) (cs : Array Value), w.heap[g]? = some (.cells cs t (0, 0)) → (setL w g o xs).heap[g]? = some (.cells (setA cs o xs) t (0, 0))
 | [], _, _, _, h => h
 | x :: xs, _, o, _, h => row_setL xs _ (o + 1) _ (row_set1 h x)
theorem mod_setL {g : Nat} : ∀ (xs : List Value) (w : World) (o : Nat), Mod (fun k => k = g) w (setL w g o xs)
 | [], w, _ => Mod.refl (fun k => k = g) w
 | x :: xs, w, o => Mod.trans (F := fun k => k = g) (Mod.setCell (F := fun k => k = g) (Mod.refl (fun k => k = g) w) (p := ⟨g, o, none⟩) (.inl rfl) x) (mod_setL xs _ (o + 1)) fun _ hi => .inl hi
theorem ext_setL {a w : World} (h : Ext a w) {g : Nat} (hg : a.heap.size ≤ g) (xs : List Value) (o : Nat) : Ext a (setL w g o xs) :=
 Mod.to_ext (Mod.trans (F := fun k => k = g) (Mod.of_ext (F := fun k => k = g) h) (mod_setL xs w o) fun _ hi => .inl hi) fun i hi => by subst hi; exact hg
theorem off_setL {w : World} {g k : Nat} {ob : Obj} (h : w.heap[k]? = some ob) (hk : k ≠ g) (xs : List Value) (o : Nat) : (setL w g o xs).heap[k]? = some ob :=
 ((mod_setL (g := g) xs w o).block k (Array.getElem?_eq_some_iff.1 h).1 hk).trans h
end
section
open Go Go.RowKit
theorem cknown_of {w : World} {p : Option Addr} {sz : Nat} (hS : Sized w p sz) (hL : LaidT w) (r g : Int) :
 Calls Tryz.prog 154 #[.pointer p, .int .i64 r, .int .i64 g] w fun e w' => e = .returned (.int .i64 (knownC sz r g)) ∧ Ext w w' := by
 have HS := Lib.hid hS
 have HL := Lib.hid hL
 clear hS hL
 by_cases h0 : sz = 0
 ·have HE : Hid (knownC sz r g = 1) := Lib.hid (by unfold knownC; rw [if_pos h0])
  have h1 : ((sz : Int) == 0) = true := by simp [h0]
  clear h0
  go_enter Tryz.func154, Tryz.ntmps154
  go_wp2_with fail
  refine (HS.out _ (Ext.refl _)).mono ?_
  rintro e w1 ⟨rfl, rfl⟩
  go_wp2_with fail
  go_ret
  exact ⟨by rw [HE.out]; rfl, Ext.refl _⟩
 have h1 : ((sz : Int) == 0) = false := by simp; omega
 obtain ⟨E, hE⟩ : ∃ E, knownC sz r g = E := ⟨_, rfl⟩
 have HE := Lib.hid hE
 by_cases h2 : sz < 156
 ·have hE2 : knownC sz r g = 2 := by unfold knownC; rw [if_neg h0, if_pos (.inl h2)]
  rw [hE2] at hE
  subst hE
  clear hE2 h0
  go_enter Tryz.func154, Tryz.ntmps154
  go_wp2_with fail
  refine (HS.out _ (Ext.refl _)).mono ?_
  rintro e w1 ⟨rfl, rfl⟩
  go_wp2_with fail
  refine (HS.out _ (Ext.refl _)).mono ?_
  rintro e w1 ⟨rfl, rfl⟩
  go_wp2_with fail
  refine (all_any _ HL.out).mono ?_
  rintro e w1 ⟨rfl, hx⟩
  have HX := Lib.hid hx
  clear hx
  go_wp2_with fail
  go_ret
  exact ⟨by rw [HE.out]; rfl, HX.out⟩
 by_cases hg : g = 1 ∨ g = 2
 ·have hg' : ¬ (g ≠ 1 ∧ g ≠ 2) := by omega
  have q : ((g != 1) && (g != 2)) = false := by rcases hg with rfl | rfl <;> rfl
  rcases hg with rfl | rfl
  ·clear q hg' 
   by_cases h3 : r < 0
   ·have hE2 : knownC sz r 1 = 2 := by unfold knownC; rw [if_neg h0, if_pos (.inr (.inr (.inl h3)))]
    rw [hE2] at hE
    subst hE
    clear hE2 h0
    go_enter Tryz.func154, Tryz.ntmps154
    go_wp2_with fail
    refine (HS.out _ (Ext.refl _)).mono ?_
    rintro e w1 ⟨rfl, rfl⟩
    go_wp2_with fail
    refine (HS.out _ (Ext.refl _)).mono ?_
    rintro e w1 ⟨rfl, rfl⟩
    go_wp2_with fail
    refine (all_any _ HL.out).mono ?_
    rintro e w1 ⟨rfl, hx⟩
    have HX := Lib.hid hx
    clear hx
    go_wp2_with fail
    go_ret
    exact ⟨by rw [HE.out]; rfl, HX.out⟩
   by_cases h4 : 7 ≤ r
   ·have hE2 : knownC sz r 1 = 2 := by unfold knownC; rw [if_neg h0, if_pos (.inr (.inr (.inr h4)))]
    rw [hE2] at hE
    subst hE
    clear hE2 h0
    go_enter Tryz.func154, Tryz.ntmps154
    go_wp2_with fail
    refine (HS.out _ (Ext.refl _)).mono ?_
    rintro e w1 ⟨rfl, rfl⟩
    go_wp2_with fail
    refine (HS.out _ (Ext.refl _)).mono ?_
    rintro e w1 ⟨rfl, rfl⟩
    go_wp2_with fail
    refine (all_any _ HL.out).mono ?_
    rintro e w1 ⟨rfl, hx⟩
    have HX := Lib.hid hx
    clear hx
    go_wp2_with fail
    go_ret
    exact ⟨by rw [HE.out]; rfl, HX.out⟩
   ·have hE2 : knownC sz r 1 = 0 := by unfold knownC; rw [if_neg h0, if_neg (by omega)]
    rw [hE2] at hE
    subst hE
    clear hE2 h0
    go_enter Tryz.func154, Tryz.ntmps154
    go_wp2_with fail
    refine (HS.out _ (Ext.refl _)).mono ?_
    rintro e w1 ⟨rfl, rfl⟩
    go_wp2_with fail
    refine (HS.out _ (Ext.refl _)).mono ?_
    rintro e w1 ⟨rfl, rfl⟩
    go_wp2_with fail
    refine (all_any _ HL.out).mono ?_
    rintro e w1 ⟨rfl, hx⟩
    have HX := Lib.hid hx
    clear hx
    go_wp2_with fail
    go_ret
    exact ⟨by rw [HE.out]; rfl, HX.out⟩
  ·clear q hg' 
   by_cases h3 : r < 0
   ·have hE2 : knownC sz r 2 = 2 := by unfold knownC; rw [if_neg h0, if_pos (.inr (.inr (.inl h3)))]
    rw [hE2] at hE
    subst hE
    clear hE2 h0
    go_enter Tryz.func154, Tryz.ntmps154
    go_wp2_with fail
    refine (HS.out _ (Ext.refl _)).mono ?_
    rintro e w1 ⟨rfl, rfl⟩
    go_wp2_with fail
    refine (HS.out _ (Ext.refl _)).mono ?_
    rintro e w1 ⟨rfl, rfl⟩
    go_wp2_with fail
    refine (all_any _ HL.out).mono ?_
    rintro e w1 ⟨rfl, hx⟩
    have HX := Lib.hid hx
    clear hx
    go_wp2_with fail
    go_ret
    exact ⟨by rw [HE.out]; rfl, HX.out⟩
   by_cases h4 : 7 ≤ r
   ·have hE2 : knownC sz r 2 = 2 := by unfold knownC; rw [if_neg h0, if_pos (.inr (.inr (.inr h4)))]
    rw [hE2] at hE
    subst hE
    clear hE2 h0
    go_enter Tryz.func154, Tryz.ntmps154
    go_wp2_with fail
    refine (HS.out _ (Ext.refl _)).mono ?_
    rintro e w1 ⟨rfl, rfl⟩
    go_wp2_with fail
    refine (HS.out _ (Ext.refl _)).mono ?_
    rintro e w1 ⟨rfl, rfl⟩
    go_wp2_with fail
    refine (all_any _ HL.out).mono ?_
    rintro e w1 ⟨rfl, hx⟩
    have HX := Lib.hid hx
    clear hx
    go_wp2_with fail
    go_ret
    exact ⟨by rw [HE.out]; rfl, HX.out⟩
   ·have hE2 : knownC sz r 2 = 0 := by unfold knownC; rw [if_neg h0, if_neg (by omega)]
    rw [hE2] at hE
    subst hE
    clear hE2 h0
    go_enter Tryz.func154, Tryz.ntmps154
    go_wp2_with fail
    refine (HS.out _ (Ext.refl _)).mono ?_
    rintro e w1 ⟨rfl, rfl⟩
    go_wp2_with fail
    refine (HS.out _ (Ext.refl _)).mono ?_
    rintro e w1 ⟨rfl, rfl⟩
    go_wp2_with fail
    refine (all_any _ HL.out).mono ?_
    rintro e w1 ⟨rfl, hx⟩
    have HX := Lib.hid hx
    clear hx
    go_wp2_with fail
    go_ret
    exact ⟨by rw [HE.out]; rfl, HX.out⟩
 ·have g1 : (g != 1) = true := by simp; omega
  have g2 : (g != 2) = true := by simp; omega
  have hE2 : knownC sz r g = 2 := by unfold knownC; rw [if_neg h0, if_pos (.inr (.inl (by omega)))]
  rw [hE2] at hE
  subst hE
  clear hE2 h0 hg
  go_enter Tryz.func154, Tryz.ntmps154
  go_wp2_with fail
  refine (HS.out _ (Ext.refl _)).mono ?_
  rintro e w1 ⟨rfl, rfl⟩
  go_wp2_with fail
  refine (HS.out _ (Ext.refl _)).mono ?_
  rintro e w1 ⟨rfl, rfl⟩
  go_wp2_with fail
  refine (all_any _ HL.out).mono ?_
  rintro e w1 ⟨rfl, hx⟩
  have HX := Lib.hid hx
  clear hx
  go_wp2_with fail
  go_ret
  exact ⟨by rw [HE.out]; rfl, HX.out⟩
theorem other_of (p : Int) (h0 : 0 ≤ p) (h1 : p ≤ 1) (w : World) :
 Calls Tryz.prog 156 #[.int .i64 p] w fun e w' => e = .returned (.int .i64 (otherP p)) ∧ w = w' := by
 have h : p = 0 ∨ p = 1 := by omega
 clear h0 h1
 rcases h with rfl | rfl
 all_goals
  go_enter Tryz.func156, Tryz.ntmps156
  go_wp2_with fail
  go_ret
  exact ⟨rfl, rfl⟩
theorem other0 (w : World) : Calls Tryz.prog 156 #[.int .i64 0] w fun e w' => e = .returned (.int .i64 1) ∧ w = w' := other_of 0 (by omega) (by omega) w
theorem other1 (w : World) : Calls Tryz.prog 156 #[.int .i64 1] w fun e w' => e = .returned (.int .i64 0) ∧ w = w' := other_of 1 (by omega) (by omega) w
end
section
open Go Go.RowKit
theorem pair_cells {w : World} {g : Nat} {s0 a0 b0 c0 d0 e0 s1 a1 b1 c1 d1 e1 : Int} {A0 A1 : Option Addr} {n0 m0 n1 m1 : Nat} {t : TypeId} (h : w.heap[g]? = some (.cells #[.int .u8 s0, .int .i64 a0, .int .i64 b0, .int .i64 c0, .int .i64 d0, .int .i64 e0, .slice A0 n0 m0, .int .u8 s1, .int .i64 a1, .int .i64 b1, .int .i64 c1, .int .i64 d1, .int .i64 e1, .slice A1 n1 m1] t (0, 0))) :
 w.cell? ⟨g, 0, none⟩ = some (.int .u8 s0) ∧ w.cell? ⟨g, 1, none⟩ = some (.int .i64 a0) ∧ w.cell? ⟨g, 2, none⟩ = some (.int .i64 b0) ∧ w.cell? ⟨g, 3, none⟩ = some (.int .i64 c0) ∧ w.cell? ⟨g, 4, none⟩ = some (.int .i64 d0) ∧ w.cell? ⟨g, 5, none⟩ = some (.int .i64 e0) ∧ w.cell? ⟨g, 6, none⟩ = some (.slice A0 n0 m0) ∧ w.cell? ⟨g, 7, none⟩ = some (.int .u8 s1) ∧ w.cell? ⟨g, 8, none⟩ = some (.int .i64 a1) ∧ w.cell? ⟨g, 9, none⟩ = some (.int .i64 b1) ∧ w.cell? ⟨g, 10, none⟩ = some (.int .i64 c1) ∧ w.cell? ⟨g, 11, none⟩ = some (.int .i64 d1) ∧ w.cell? ⟨g, 12, none⟩ = some (.int .i64 e1) ∧ w.cell? ⟨g, 13, none⟩ = some (.slice A1 n1 m1) :=
 ⟨cell_of_row w g 0 _ _ _ h, cell_of_row w g 1 _ _ _ h, cell_of_row w g 2 _ _ _ h, cell_of_row w g 3 _ _ _ h, cell_of_row w g 4 _ _ _ h, cell_of_row w g 5 _ _ _ h, cell_of_row w g 6 _ _ _ h, cell_of_row w g 7 _ _ _ h, cell_of_row w g 8 _ _ _ h, cell_of_row w g 9 _ _ _ h, cell_of_row w g 10 _ _ _ h, cell_of_row w g 11 _ _ _ h, cell_of_row w g 12 _ _ _ h, cell_of_row w g 13 _ _ _ h⟩
theorem keep_pair {u w' : World} {g : Nat} {s0 a0 b0 c0 d0 e0 s1 a1 b1 c1 d1 e1 : Int} {A0 A1 : Option Addr} {n0 m0 n1 m1 : Nat} {t : TypeId} (k : Hid (Ext u w')) (h : Hid (u.heap[g]? = some (.cells #[.int .u8 s0, .int .i64 a0, .int .i64 b0, .int .i64 c0, .int .i64 d0, .int .i64 e0, .slice A0 n0 m0, .int .u8 s1, .int .i64 a1, .int .i64 b1, .int .i64 c1, .int .i64 d1, .int .i64 e1, .slice A1 n1 m1] t (0, 0)))) :
 w'.cell? ⟨g, 0, none⟩ = some (.int .u8 s0) ∧ w'.cell? ⟨g, 1, none⟩ = some (.int .i64 a0) ∧ w'.cell? ⟨g, 2, none⟩ = some (.int .i64 b0) ∧ w'.cell? ⟨g, 3, none⟩ = some (.int .i64 c0) ∧ w'.cell? ⟨g, 4, none⟩ = some (.int .i64 d0) ∧ w'.cell? ⟨g, 5, none⟩ = some (.int .i64 e0) ∧ w'.cell? ⟨g, 6, none⟩ = some (.slice A0 n0 m0) ∧ w'.cell? ⟨g, 7, none⟩ = some (.int .u8 s1) ∧ w'.cell? ⟨g, 8, none⟩ = some (.int .i64 a1) ∧ w'.cell? ⟨g, 9, none⟩ = some (.int .i64 b1) ∧ w'.cell? ⟨g, 10, none⟩ = some (.int .i64 c1) ∧ w'.cell? ⟨g, 11, none⟩ = some (.int .i64 d1) ∧ w'.cell? ⟨g, 12, none⟩ = some (.int .i64 e1) ∧ w'.cell? ⟨g, 13, none⟩ = some (.slice A1 n1 m1) := pair_cells ((k.out.block g (Array.getElem?_eq_some_iff.1 h.out).1).trans h.out)
set_option maxHeartbeats 1600000 in
theorem leads0_of (s0 a0 b0 c0 d0 e0 s1 a1 b1 c1 d1 e1 : Int) (A0 A1 : Option Addr) (n0 m0 n1 m1 : Nat) (w : World) :
 Calls Tryz.prog 212 #[.agg #[.int .u8 s0, .int .i64 a0, .int .i64 b0, .int .i64 c0, .int .i64 d0, .int .i64 e0, .slice A0 n0 m0, .int .u8 s1, .int .i64 a1, .int .i64 b1, .int .i64 c1, .int .i64 d1, .int .i64 e1, .slice A1 n1 m1], .int .i64 0] w fun e w' => e = .returned (.bool (decide (s0 = 1) && decide (d1 ≤ d0))) ∧ Ext w w' := by
 have hT := heap_alloc_new w (.cells #[.int .u8 s0, .int .i64 a0, .int .i64 b0, .int .i64 c0, .int .i64 d0, .int .i64 e0, .slice A0 n0 m0, .int .u8 s1, .int .i64 a1, .int .i64 b1, .int .i64 c1, .int .i64 d1, .int .i64 e1, .slice A1 n1 m1] 220)
 have hE := (Ext.refl w).alloc (.cells #[.int .u8 s0, .int .i64 a0, .int .i64 b0, .int .i64 c0, .int .i64 d0, .int .i64 e0, .slice A0 n0 m0, .int .u8 s1, .int .i64 a1, .int .i64 b1, .int .i64 c1, .int .i64 d1, .int .i64 e1, .slice A1 n1 m1] 220)
 obtain ⟨i0, i1, i2, i3, i4, i5, i6, i7, i8, i9, i10, i11, i12, i13⟩ := pair_cells hT
 have HT := Lib.hid hT
 have HE := Lib.hid hE
 clear hT hE
 go_enter Tryz.func212, Tryz.ntmps212
 go_wp2_with fail
 go_region_held3 (fun w' => w'.cell? ⟨w.heap.size, 0, none⟩ = some (.int .u8 s0) ∧ w'.cell? ⟨w.heap.size, 1, none⟩ = some (.int .i64 a0) ∧ w'.cell? ⟨w.heap.size, 2, none⟩ = some (.int .i64 b0) ∧ w'.cell? ⟨w.heap.size, 3, none⟩ = some (.int .i64 c0) ∧ w'.cell? ⟨w.heap.size, 4, none⟩ = some (.int .i64 d0) ∧ w'.cell? ⟨w.heap.size, 5, none⟩ = some (.int .i64 e0) ∧ w'.cell? ⟨w.heap.size, 6, none⟩ = some (.slice A0 n0 m0) ∧ w'.cell? ⟨w.heap.size, 7, none⟩ = some (.int .u8 s1) ∧ w'.cell? ⟨w.heap.size, 8, none⟩ = some (.int .i64 a1) ∧ w'.cell? ⟨w.heap.size, 9, none⟩ = some (.int .i64 b1) ∧ w'.cell? ⟨w.heap.size, 10, none⟩ = some (.int .i64 c1) ∧ w'.cell? ⟨w.heap.size, 11, none⟩ = some (.int .i64 d1) ∧ w'.cell? ⟨w.heap.size, 12, none⟩ = some (.int .i64 e1) ∧ w'.cell? ⟨w.heap.size, 13, none⟩ = some (.slice A1 n1 m1))
  (first | with_reducible exact ⟨i0, i1, i2, i3, i4, i5, i6, i7, i8, i9, i10, i11, i12, i13⟩ | (refine keep_pair (Lib.hid ?_) HT; repeat (first | exact Ext.refl _ | refine Ext.drew ?_ | refine Ext.alloc ?_ _ | refine Ext.setCell ?_ (by simp) _)))
  (first
   | (go_at_call 156; ((with_reducible refine (other0 _).mono ?_); rintro e w1 ⟨rfl, rfl⟩)))
 all_goals
  clear i0 i1 i2 i3 i4 i5 i6 i7 i8 i9 i10 i11 i12 i13
  by_cases hs : s0 = 1
  ·subst hs
   go_wp2_with fail
   go_ret
   exact ⟨by simp, by repeat (first | exact Ext.refl _ | refine Ext.drew ?_ | refine Ext.alloc ?_ _)⟩
  ·have hs1 : (s0 == 1) = false := by simpa using hs
   have hs2 := decide_eq_false hs
   clear hs
   go_wp2_with fail
   go_ret
   exact ⟨by rw [hs2]; rfl, by repeat (first | exact Ext.refl _ | refine Ext.drew ?_ | refine Ext.alloc ?_ _)⟩
set_option maxHeartbeats 1600000 in
theorem leads1_of (s0 a0 b0 c0 d0 e0 s1 a1 b1 c1 d1 e1 : Int) (A0 A1 : Option Addr) (n0 m0 n1 m1 : Nat) (w : World) :
 Calls Tryz.prog 212 #[.agg #[.int .u8 s0, .int .i64 a0, .int .i64 b0, .int .i64 c0, .int .i64 d0, .int .i64 e0, .slice A0 n0 m0, .int .u8 s1, .int .i64 a1, .int .i64 b1, .int .i64 c1, .int .i64 d1, .int .i64 e1, .slice A1 n1 m1], .int .i64 1] w fun e w' => e = .returned (.bool (decide (s1 = 1) && decide (d0 ≤ d1))) ∧ Ext w w' := by
 have hT := heap_alloc_new w (.cells #[.int .u8 s0, .int .i64 a0, .int .i64 b0, .int .i64 c0, .int .i64 d0, .int .i64 e0, .slice A0 n0 m0, .int .u8 s1, .int .i64 a1, .int .i64 b1, .int .i64 c1, .int .i64 d1, .int .i64 e1, .slice A1 n1 m1] 220)
 have hE := (Ext.refl w).alloc (.cells #[.int .u8 s0, .int .i64 a0, .int .i64 b0, .int .i64 c0, .int .i64 d0, .int .i64 e0, .slice A0 n0 m0, .int .u8 s1, .int .i64 a1, .int .i64 b1, .int .i64 c1, .int .i64 d1, .int .i64 e1, .slice A1 n1 m1] 220)
 obtain ⟨i0, i1, i2, i3, i4, i5, i6, i7, i8, i9, i10, i11, i12, i13⟩ := pair_cells hT
 have HT := Lib.hid hT
 have HE := Lib.hid hE
 clear hT hE
 go_enter Tryz.func212, Tryz.ntmps212
 go_wp2_with fail
 go_region_held3 (fun w' => w'.cell? ⟨w.heap.size, 0, none⟩ = some (.int .u8 s0) ∧ w'.cell? ⟨w.heap.size, 1, none⟩ = some (.int .i64 a0) ∧ w'.cell? ⟨w.heap.size, 2, none⟩ = some (.int .i64 b0) ∧ w'.cell? ⟨w.heap.size, 3, none⟩ = some (.int .i64 c0) ∧ w'.cell? ⟨w.heap.size, 4, none⟩ = some (.int .i64 d0) ∧ w'.cell? ⟨w.heap.size, 5, none⟩ = some (.int .i64 e0) ∧ w'.cell? ⟨w.heap.size, 6, none⟩ = some (.slice A0 n0 m0) ∧ w'.cell? ⟨w.heap.size, 7, none⟩ = some (.int .u8 s1) ∧ w'.cell? ⟨w.heap.size, 8, none⟩ = some (.int .i64 a1) ∧ w'.cell? ⟨w.heap.size, 9, none⟩ = some (.int .i64 b1) ∧ w'.cell? ⟨w.heap.size, 10, none⟩ = some (.int .i64 c1) ∧ w'.cell? ⟨w.heap.size, 11, none⟩ = some (.int .i64 d1) ∧ w'.cell? ⟨w.heap.size, 12, none⟩ = some (.int .i64 e1) ∧ w'.cell? ⟨w.heap.size, 13, none⟩ = some (.slice A1 n1 m1))
  (first | with_reducible exact ⟨i0, i1, i2, i3, i4, i5, i6, i7, i8, i9, i10, i11, i12, i13⟩ | (refine keep_pair (Lib.hid ?_) HT; repeat (first | exact Ext.refl _ | refine Ext.drew ?_ | refine Ext.alloc ?_ _ | refine Ext.setCell ?_ (by simp) _)))
  (first
   | (go_at_call 156; ((with_reducible refine (other1 _).mono ?_); rintro e w1 ⟨rfl, rfl⟩)))
 all_goals
  clear i0 i1 i2 i3 i4 i5 i6 i7 i8 i9 i10 i11 i12 i13
  by_cases hs : s1 = 1
  ·subst hs
   go_wp2_with fail
   go_ret
   exact ⟨by simp, by repeat (first | exact Ext.refl _ | refine Ext.drew ?_ | refine Ext.alloc ?_ _)⟩
  ·have hs1 : (s1 == 1) = false := by simpa using hs
   have hs2 := decide_eq_false hs
   clear hs
   go_wp2_with fail
   go_ret
   exact ⟨by rw [hs2]; rfl, by repeat (first | exact Ext.refl _ | refine Ext.drew ?_ | refine Ext.alloc ?_ _)⟩
end
end Go.Proofs.YtmpaocpgoihliaaGreatDoor

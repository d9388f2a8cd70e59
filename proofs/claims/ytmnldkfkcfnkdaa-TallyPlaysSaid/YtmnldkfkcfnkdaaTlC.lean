/-
  A tally in memory; the contracts of New, Note, Count.
-/
import Derived.Test.YtmnldkfkcfnkdaaTlMap
import Derived.Test.YtmnldkfkcfnkdaaQuMem
import Derived.Deep.RegionHeld3
import Derived.LaidEqlPtr
namespace Go.Proofs.Ytmnldkfkcfnkdaa
open Go Go.RowKit Go.Maps

structure TQ (w : World) (h n bm : Nat) (L : List (Int × Nat)) : Prop where
  row : w.heap[h]? = some (.cells #[.pointer (some ⟨h, 0, none⟩), .int .i64 (n : Int), .map (some bm)] 38 (0, 0))
  map : MapT w bm L
  ok : OkT L
  cnt : n = 3 ∨ n = 5 ∨ n = 7
section
variable {w w' : World} {h n bm : Nat} {L : List (Int × Nat)}
theorem TQ.lt (z : TQ w h n bm L) : h < w.heap.size := (Array.getElem?_eq_some_iff.1 z.row).1
theorem TQ.ne (z : TQ w h n bm L) : h ≠ bm := fun e => by
  obtain ⟨D, ⟨es, clock, hb, _⟩, _⟩ := z.map.own
  have := z.row
  rw [e, hb] at this
  cases this
theorem TQ.mod {F : Nat → Prop} (z : TQ w h n bm L) (hm : Mod F w w') (h1 : ¬ F h) (h2 : ¬ F bm) : TQ w' h n bm L := ⟨heap_mod z.row hm h1, z.map.mod hm h2, z.ok, z.cnt⟩
theorem TQ.ext (z : TQ w h n bm L) (hx : Ext w w') : TQ w' h n bm L := ⟨(hx.block _ z.lt).trans z.row, z.map.ext hx, z.ok, z.cnt⟩
theorem TQ.cells (z : TQ w h n bm L) : w.cell? ⟨h, 0, none⟩ = some (.pointer (some ⟨h, 0, none⟩)) ∧ w.cell? ⟨h, 1, none⟩ = some (.int .i64 (n : Int)) ∧ w.cell? ⟨h, 2, none⟩ = some (.map (some bm)) :=
  ⟨cell_of_row w h 0 _ _ _ z.row, cell_of_row w h 1 _ _ _ z.row, cell_of_row w h 2 _ _ _ z.row⟩
theorem TQ.le7 (z : TQ w h n bm L) : (n : Int) ≤ 7 := by have := z.cnt; omega
end
theorem eqlT_self (a : Addr) (w : World) : (binOp .eql 23 (.pointer (some a)) (.pointer (some a))).run Try.prog w = .ok (.bool true) w := by
  have hi : (Try.prog.info? 38).isSome = true := by kernel_rfl
  obtain ⟨j, hj⟩ := Option.isSome_iff_exists.1 hi
  exact run_eql_ptr_same w a Try.underlying23 hj
theorem eqlT_nil_some (a : Addr) (w : World) : (binOp .eql 23 (.pointer none) (.pointer (some a))).run Try.prog w = .ok (.bool false) w := by
  have h : ∀ d : Nat, (Op.equalIn (d + 1) 23 (.pointer none) (.pointer (some a))).run Try.prog w = .ok false w := fun d => by
    simp [Op.equalIn, run_underlying Try.underlying23]
  simp only [binOp]
  simp [Op.equal, Op.maxDepth, h 9999]
set_option maxRecDepth 100000 in
set_option maxHeartbeats 400000 in
theorem tmade_yes (g : Nat) (w : World) (h : w.cell? ⟨g, 0, none⟩ = some (.pointer (some ⟨g, 0, none⟩))) :
    Calls Try.prog 28 #[.pointer (some ⟨g, 0, none⟩)] w fun e w' => e = .returned (.bool true) ∧ w = w' := by
  have he := eqlT_self
  go_enter Try.func28, Try.ntmps28
  go_wp2
  go_ret
  exact ⟨rfl, rfl⟩
/-- A pointer to no tally that New returned. -/
def UnmadeT (w : World) (p : Option Addr) : Prop := p = none ∨ ∃ d, p = some ⟨d, 0, none⟩ ∧ w.cell? ⟨d, 0, none⟩ = some (.pointer none)
set_option maxRecDepth 100000 in
set_option maxHeartbeats 400000 in
theorem tmade_no (p : Option Addr) (w : World) (h : UnmadeT w p) :
    Calls Try.prog 28 #[.pointer p] w fun e w' => e = .returned (.bool false) ∧ w = w' := by
  rcases h with rfl | ⟨d, rfl, h⟩
  · go_enter Try.func28, Try.ntmps28
    go_wp2
    go_ret
    exact ⟨rfl, rfl⟩
  · have he := eqlT_nil_some
    go_enter Try.func28, Try.ntmps28
    go_wp2
    go_ret
    exact ⟨rfl, rfl⟩
set_option maxRecDepth 100000 in
set_option maxHeartbeats 400000 in
theorem tindex_of (i : Int) (w : World) : Calls Try.prog 29 #[.int .i64 i] w fun e w' => e = .returned (.bool (decide (1 ≤ i ∧ i ≤ 1099511627776))) ∧ w = w' := by
  by_cases h1 : 1 ≤ i
  · have d1 : decide (1 ≤ i) = true := decide_eq_true h1
    rw [show decide (1 ≤ i ∧ i ≤ 1099511627776) = decide (i ≤ 1099511627776) by simp [h1]]
    go_enter Try.func29, Try.ntmps29
    go_wp2_with fail
    go_ret
    exact ⟨rfl, rfl⟩
  · have d1 : decide (1 ≤ i) = false := decide_eq_false h1
    rw [show decide (1 ≤ i ∧ i ≤ 1099511627776) = false by simp [h1]]
    go_enter Try.func29, Try.ntmps29
    go_wp2_with fail
    go_ret
    exact ⟨rfl, rfl⟩
set_option maxRecDepth 100000 in
set_option maxHeartbeats 600000 in
theorem tnew_no (n : Int) (hn : mostQ n = 0) (w : World) : Calls Try.prog 9 #[.int .i64 n] w fun e w' => e = .returned (.tuple #[.pointer none, .int .i64 2]) ∧ w = w' := by
  have HN := Lib.hid hn
  clear hn
  go_enter Try.func9, Try.ntmps9
  go_wp2_with fail
  refine (most_of _ _).mono ?_
  rw [HN.out]
  rintro e w1 ⟨rfl, rfl⟩
  go_wp2_with fail
  refine bodyPost_ret (v := .tuple #[.pointer none, .int .i64 2]) (by simp [results, Try.results9, go_sem]) rfl ⟨rfl, rfl⟩
theorem most_pos {n : Nat} (hn : n = 3 ∨ n = 5 ∨ n = 7) : mostQ (n : Int) ≠ 0 ∧ ((mostQ (n : Int) : Nat) : Int) = (n : Int) / 2 + 1 := by rcases hn with rfl | rfl | rfl <;> decide
set_option maxRecDepth 100000 in
set_option maxHeartbeats 800000 in
theorem tnew_yes (n : Nat) (hn : n = 3 ∨ n = 5 ∨ n = 7) (w : World) : Calls Try.prog 9 #[.int .i64 (n : Int)] w fun e w' => ∃ h bm, e = .returned (.tuple #[.pointer (some ⟨h, 0, none⟩), .int .i64 0]) ∧ TQ w' h n bm [] ∧ Ext w w' ∧ w.heap.size ≤ h ∧ w.heap.size ≤ bm := by
  have HN := Lib.hid hn
  have hp : (((mostQ (n : Int) : Nat) : Int) == 0) = false := by
    have := (most_pos hn).1
    simpa using this
  have hp2 : ¬ (mostQ (n : Int) = 0) := (most_pos hn).1
  have hmm := @run_makeMap Try.prog
  clear hn
  go_enter Try.func9, Try.ntmps9
  go_wp2_with fail
  refine (most_of _ _).mono ?_
  rintro e w1 ⟨rfl, rfl⟩
  go_wp2_with fail
  refine bodyPost_ret (v := .tuple #[.pointer (some ⟨w.heap.size + 1, 0, none⟩), .int .i64 0]) (by simp [results, Try.results9, go_sem]) rfl ?_
  have hx : Ext w ((w.alloc (.map #[] 0)).alloc (.cells #[.pointer (some ⟨w.heap.size + 1, 0, none⟩), .int .i64 (n : Int), .map (some w.heap.size)] 38)) := ((Ext.refl w).alloc _).alloc _
  refine ⟨w.heap.size + 1, w.heap.size, rfl, ⟨?_, (MapT.new w).ext ((Ext.refl _).alloc _), okT_nil, HN.out⟩, hx, by omega, by omega⟩
  have h1 := heap_alloc_new (w.alloc (.map #[] 0)) (.cells #[.pointer (some ⟨w.heap.size + 1, 0, none⟩), .int .i64 (n : Int), .map (some w.heap.size)] 38)
  rw [World.size_alloc] at h1
  exact h1
theorem ext_cellT {w w' : World} {a : Addr} {v : Value} (h : Ext w w') (hc : w.cell? a = some v) : w'.cell? a = some v := (Below.cell h (p := a) (World.block_lt_of_cell? w _ hc)).trans hc
theorem mod_cellT {F : Nat → Prop} {w w' : World} (k : Mod F w w') {g i : Nat} {v : Value} (hg : ¬ F g) (h : w.cell? ⟨g, i, none⟩ = some v) : w'.cell? ⟨g, i, none⟩ = some v := mod_cellQ k hg h
theorem argT_no {n i r : Int} (h : ¬ (1 ≤ i ∧ i ≤ 1099511627776) ∨ r < 0 ∨ n ≤ r) (L : List (Int × Nat)) : errT n L i r = 2 := by
  unfold errT argT
  rw [if_neg]
  intro e
  have := of_decide_eq_true e
  omega
theorem argT_yes {n i r : Int} (h : 1 ≤ i ∧ i ≤ 1099511627776) (h2 : ¬ r < 0) (h3 : ¬ n ≤ r) (L : List (Int × Nat)) : errT n L i r = if lookT L i = 0 ∧ 64 ≤ L.length then 4 else 0 := by
  unfold errT argT
  rw [if_pos (decide_eq_true (by omega))]
theorem noteT_no {n i r : Int} {L : List (Int × Nat)} (h : errT n L i r ≠ 0) : noteT n L i r = L := by
  unfold noteT
  rw [if_neg h]
set_option maxRecDepth 100000 in
set_option maxHeartbeats 1600000 in
/-- Note, where an argument may not be. -/
theorem tnote_arg {w : World} {h n bm : Nat} {L : List (Int × Nat)} (z : TQ w h n bm L) (i r : Int) (ha : ¬ (1 ≤ i ∧ i ≤ 1099511627776) ∨ r < 0 ∨ (n : Int) ≤ r) :
    Calls Try.prog 11 #[.pointer (some ⟨h, 0, none⟩), .int .i64 i, .int .i64 r] w fun e w' => e = .returned (.int .i64 2) ∧ w = w' := by
  have HM := Lib.hid (tmade_yes h w z.cells.1)
  obtain ⟨c0, c1, c2⟩ := z.cells
  by_cases h1 : 1 ≤ i ∧ i ≤ 1099511627776
  · have hd : decide (1 ≤ i ∧ i ≤ 1099511627776) = true := decide_eq_true h1
    have HD := Lib.hid hd
    by_cases h2 : r < 0
    · have d2 : decide (r < 0) = true := decide_eq_true h2
      clear z ha h1 hd
      go_enter Try.func11, Try.ntmps11
      go_wp2_with fail
      refine HM.out.mono ?_
      rintro e w1 ⟨rfl, rfl⟩
      go_wp2_with fail
      refine (tindex_of _ _).mono ?_
      rw [HD.out]
      rintro e w1 ⟨rfl, rfl⟩
      go_wp2_with fail
      go_ret
      exact ⟨rfl, rfl⟩
    · have h3 : (n : Int) ≤ r := by omega
      have d2 : decide (r < 0) = false := decide_eq_false h2
      have d3 : decide ((n : Int) ≤ r) = true := decide_eq_true h3
      clear z ha h1 hd
      go_enter Try.func11, Try.ntmps11
      go_wp2_with fail
      refine HM.out.mono ?_
      rintro e w1 ⟨rfl, rfl⟩
      go_wp2_with fail
      refine (tindex_of _ _).mono ?_
      rw [HD.out]
      rintro e w1 ⟨rfl, rfl⟩
      go_wp2_with fail
      go_ret
      exact ⟨rfl, rfl⟩
  · have hd : decide (1 ≤ i ∧ i ≤ 1099511627776) = false := decide_eq_false h1
    have HD := Lib.hid hd
    clear z ha h1 hd
    go_enter Try.func11, Try.ntmps11
    go_wp2_with fail
    refine HM.out.mono ?_
    rintro e w1 ⟨rfl, rfl⟩
    go_wp2_with fail
    refine (tindex_of _ _).mono ?_
    rw [HD.out]
    rintro e w1 ⟨rfl, rfl⟩
    go_wp2_with fail
    go_ret
    exact ⟨rfl, rfl⟩
set_option maxRecDepth 100000 in
set_option maxHeartbeats 1600000 in
/-- Note, where it may be. -/
theorem tnote_in {w : World} {h n bm : Nat} {L : List (Int × Nat)} (z : TQ w h n bm L) (i r : Int) (h1 : 1 ≤ i ∧ i ≤ 1099511627776) (h2 : ¬ r < 0) (h3 : ¬ (n : Int) ≤ r) :
    Calls Try.prog 11 #[.pointer (some ⟨h, 0, none⟩), .int .i64 i, .int .i64 r] w fun e w' => e = .returned (.int .i64 (errT n L i r : Nat)) ∧ TQ w' h n bm (noteT n L i r) ∧ Mod (fun k => k = bm) w w' := by
  have HM := Lib.hid (tmade_yes h w z.cells.1)
  obtain ⟨c0, c1, c2⟩ := z.cells
  have HZ := Lib.hid z
  have hd : decide (1 ≤ i ∧ i ≤ 1099511627776) = true := decide_eq_true h1
  have HD := Lib.hid hd
  have d2 : decide (r < 0) = false := decide_eq_false h2
  have d3 : decide ((n : Int) ≤ r) = false := decide_eq_false h3
  have hwf : (Lit.int .i64 i).wf = true := WalkArith.wf_i64 (by omega)
  have hlk := z.map.looks z.ok hwf
  have hlen := z.map.len z.ok
  have HE := Lib.hid (argT_yes h1 h2 h3 L)
  have HOK := Lib.hid (z.ok.note z.le7 i r)
  have h64 : (L.length : Int) ≤ 64 := by have := z.ok.most; omega
  have HADD := Lib.hid (fun V => add_of (lookT L i) (z.ok.look_lt i) r V)
  have haq := addQ_low (z.ok.look_lt i) r
  by_cases hz : lookT L i = 0
  · by_cases hf : 64 ≤ L.length
    · have hb : decide (lookT L i ≠ 0) = false := by simp [hz]
      rw [hb] at hlk
      rw [HE.out, if_pos ⟨hz, hf⟩, noteT_no (by rw [HE.out, if_pos ⟨hz, hf⟩]; decide)]
      have d4 : decide ((64 : Int) ≤ (L.length : Int)) = true := decide_eq_true (by omega)
      have hf2 : (64 : Int) ≤ (L.length : Int) := by omega
      clear z h1 hd hb h64 haq HADD
      go_enter Try.func11, Try.ntmps11
      go_wp2_with fail
      refine HM.out.mono ?_
      rintro e w1 ⟨rfl, rfl⟩
      go_wp2_with fail
      refine (tindex_of _ _).mono ?_
      rw [HD.out]
      rintro e w1 ⟨rfl, rfl⟩
      go_wp2_with fail
      go_ret
      exact ⟨rfl, HZ.out, Mod.refl _ _⟩
    · have hb : decide (lookT L i ≠ 0) = false := by simp [hz]
      have d4 : decide ((64 : Int) ≤ (L.length : Int)) = false := decide_eq_false (by omega)
      have hf2 : ¬ (64 : Int) ≤ (L.length : Int) := by omega
      have he0 : errT n L i r = 0 := by rw [HE.out, if_neg (fun e => hf e.2)]
      rw [hb] at hlk
      have hok := HOK.out
      unfold noteT at hok
      rw [if_pos he0] at hok
      have hnt : noteT n L i r = setT L i (addQ (lookT L i) r) := by unfold noteT; rw [if_pos he0]
      obtain ⟨w4, hrun, hmz, htn⟩ := MapT.store (w := w.drew) (z.map.ext (Ext.refl w).drew) z.ok hwf haq hok
      have hS0 : w.drew.cell? ⟨h, 2, none⟩ = some (.map (some bm)) := c2
      have hS2 := mod_cellT (turned_modT htn) z.ne hS0
      have hres : TQ w4 h n bm (noteT n L i r) ∧ Mod (fun k => k = bm) w w4 := by
        have hm := turned_modT htn
        refine ⟨⟨heap_mod (w := w.drew) z.row hm z.ne, by rw [hnt]; exact hmz, HOK.out, z.cnt⟩, (Mod.of_ext (Ext.refl w).drew).trans hm fun _ hi => .inl hi⟩
      have HR := Lib.hid hres
      rw [he0]
      clear hok hnt hmz htn hres haq
      obtain ⟨s, hs⟩ : ∃ s, lookT L i = s := ⟨_, rfl⟩
      rw [hs] at hlk HADD hrun
      clear z h1 hd hb h64 hz
      go_enter Try.func11, Try.ntmps11
      go_wp2_with fail
      refine HM.out.mono ?_
      rintro e w1 ⟨rfl, rfl⟩
      go_wp2_with fail
      refine (tindex_of _ _).mono ?_
      rw [HD.out]
      rintro e w1 ⟨rfl, rfl⟩
      go_wp2_with fail
      go_region_held3 (fun w' => w'.cell? ⟨h, 2, none⟩ = some (.map (some bm)))
        (first | with_reducible exact hS0 | with_reducible exact hS2 | with_reducible assumption)
        (first | (go_at_call 23; ((with_reducible refine (HADD.out _).mono ?_); rintro e' w3 ⟨rfl, rfl⟩)))
      go_wp2_with fail
      go_ret
      exact ⟨rfl, HR.out⟩
  · have hb : decide (lookT L i ≠ 0) = true := by simp [hz]
    have he0 : errT n L i r = 0 := by rw [HE.out, if_neg (fun e => hz e.1)]
    rw [hb] at hlk
    have hok := HOK.out
    unfold noteT at hok
    rw [if_pos he0] at hok
    have hnt : noteT n L i r = setT L i (addQ (lookT L i) r) := by unfold noteT; rw [if_pos he0]
    obtain ⟨w4, hrun, hmz, htn⟩ := MapT.store (w := w.drew) (z.map.ext (Ext.refl w).drew) z.ok hwf haq hok
    have hS0 : w.drew.cell? ⟨h, 2, none⟩ = some (.map (some bm)) := c2
    have hS2 := mod_cellT (turned_modT htn) z.ne hS0
    have hres : TQ w4 h n bm (noteT n L i r) ∧ Mod (fun k => k = bm) w w4 := by
      have hm := turned_modT htn
      refine ⟨⟨heap_mod (w := w.drew) z.row hm z.ne, by rw [hnt]; exact hmz, HOK.out, z.cnt⟩, (Mod.of_ext (Ext.refl w).drew).trans hm fun _ hi => .inl hi⟩
    have HR := Lib.hid hres
    rw [he0]
    clear hok hnt hmz htn hres haq
    obtain ⟨s, hs⟩ : ∃ s, lookT L i = s := ⟨_, rfl⟩
    rw [hs] at hlk HADD hrun
    clear z h1 hd hb h64 hz
    go_enter Try.func11, Try.ntmps11
    go_wp2_with fail
    refine HM.out.mono ?_
    rintro e w1 ⟨rfl, rfl⟩
    go_wp2_with fail
    refine (tindex_of _ _).mono ?_
    rw [HD.out]
    rintro e w1 ⟨rfl, rfl⟩
    go_wp2_with fail
    go_region_held3 (fun w' => w'.cell? ⟨h, 2, none⟩ = some (.map (some bm)))
      (first | with_reducible exact hS0 | with_reducible exact hS2 | with_reducible assumption)
      (first | (go_at_call 23; ((with_reducible refine (HADD.out _).mono ?_); rintro e' w3 ⟨rfl, rfl⟩)))
    go_wp2_with fail
    go_ret
    exact ⟨rfl, HR.out⟩
end Go.Proofs.Ytmnldkfkcfnkdaa

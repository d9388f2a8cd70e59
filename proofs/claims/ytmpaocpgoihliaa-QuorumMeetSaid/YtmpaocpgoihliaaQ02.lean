/-
  The contracts of quorum's Members and Enough.
-/
import Derived.Test.YtmpaocpgoihliaaQ00
import Derived.Test.YtmpaocpgoihliaaQ01
import Derived.OpenShut
namespace Go.Proofs.Ytmpaocpgoihliaa
set_option maxRecDepth 100000
section
open Go Go.RowKit Go.Shelf
attribute [local go_sem] Oper.semAt_some
set_option maxHeartbeats 1600000 in
theorem members_own (s : Nat) (hs : s < 256) (n : Int) (w : World) :
    Calls Try.prog 11 #[.int .u8 (s : Int), .int .i64 n] w fun e w' =>
      ∃ v, e = .returned v ∧ w'.ownsRow w.heap.size 3 1 v (membersQ s n).length ((membersQ s n).map fun k : Nat => Value.int .i64 (k : Int)) ∧ Ext w w' := by
  obtain ⟨i0, hi, hz0', hz1', hz2'⟩ := info_parts int_infoQ
  have bO := Boxed.new w 25 (.slice none 0 0)
  obtain ⟨w1, hw1⟩ : ∃ w1, w.alloc (.cells #[.slice none 0 0] 25) = w1 := ⟨_, rfl⟩
  have hE1 : Ext w w1 := by rw [← hw1]; exact (Ext.refl w).alloc _
  have hs1 : w1.heap.size = w.heap.size + 1 := by rw [← hw1]; simp
  obtain ⟨w2, hw2⟩ : ∃ w2, (w1.alloc (.cells #[.int .u8 (s : Int)] 22)).alloc (.cells #[.int .i64 n] 3) = w2 := ⟨_, rfl⟩
  have hE2 : Ext w1 w2 := by rw [← hw2]; exact ((Ext.refl w1).alloc _).alloc _
  have hs2 : w2.heap.size = w1.heap.size + 2 := by rw [← hw2]; simp
  have hst := below_stops 8 (by omega) (w1.heap.size + 1) w1.heap.size (fun i => i = w.heap.size ∨ w2.heap.size ≤ i) s hs n w2 ⟨by omega, by omega⟩ (by rw [← hw2]; simp [go_sem]) (by rw [← hw2]; simp [go_sem])
  have HST := Lib.hid hst
  have HB := Lib.hid (below_of (s : Int) n w1)
  rw [hw2] at HB
  rw [hw1] at bO
  have bO2 : Boxed w2 w.heap.size 25 (.slice none 0 0) := (hE2.block _ (by omega)).trans bO
  have HE := Lib.hid (hE1.trans hE2)
  have HS2 := Lib.hid (show w2.heap.size = w.heap.size + 3 by omega)
  have h28 : w.heap.size ≤ w2.heap.size := by omega
  obtain ⟨M, hM⟩ : ∃ M, membersQ s n = M := ⟨_, rfl⟩
  have HML := Lib.hid (show M.length ≤ 7 by
    rw [← hM]; unfold membersQ
    split
    · simp
    · rename_i h
      refine Nat.le_trans (memQ_len s _) ?_
      rcases mostQ_cases h with rfl | rfl | rfl <;> decide)
  rw [hM] at HST ⊢
  clear hst bO hE1 hE2 hs1 hs2 hM
  refine calls_marksQ Try.func11 rfl ?_
  simp only [Try.ntmps11, List.size_toArray, List.length_cons, List.length_nil, Nat.reduceAdd, Nat.reduceSub, Array.replicate_succ, Array.replicate_zero, List.push_toArray, List.append_toArray, List.nil_append, List.cons_append]
  go_wp2_with fail
  refine HB.out.mono ?_
  rintro e w2' ⟨rfl, hw⟩
  have hw := hw.symm
  subst hw
  go_wp2_with fail
  refine (wpIn_wide (n := 9)).1 ?_
  refine wpIn_rangeFunc_ownG (F := Fence.wide) (n := 9) rfl (by omega) (gf := 23) (lb := #[.pointer (some ⟨w1.heap.size + 1, 0, none⟩), .pointer (some ⟨w1.heap.size, 0, none⟩)]) rfl trivial (enters_of Try.func23 (by kernel_rfl) rfl)
    HST.out (fun h k => h.trans k fun _ hi => .inl hi) (fun W l o o' hl ho _ _ => mod_putQ (w := w2) l o o' (fun k hk => .inr hk) hl ho) (Below.refl _ _) (fun _ => rfl)
    (fun pre W => (∃ v, Boxed W w.heap.size 25 v ∧ W.ownsRow w2.heap.size 3 1 v pre.length (pre.map fun x : Nat => Value.int .i64 (x : Int)) ∧ True) ∧ Below w.heap.size w W ∧ w2.heap.size ≤ W.heap.size)
    (fun _ _ _ => False)
    (OwnFrom.and (Own.from (holdsRow_own w2.heap.size w.heap.size 25 3 1 (fun pre : List Nat => pre.length) (fun pre : List Nat => pre.map fun x : Nat => Value.int .i64 (x : Int)) (fun _ _ => True)) _) (OwnFrom.and (ownFrom_below (Nat.le_refl _) h28) (fun _ _ _ _ hs hg _ => Nat.le_trans hs hg.size)))
    (fun _ _ _ _ _ hs _ _ => hs)
    ⟨⟨_, bO2, World.ownsRow_nil _ _ _ _, trivial⟩, HE.out, Nat.le_refl _⟩
    (fun x => { tmps := #[.int .u8 (s : Int), .int .i64 n, undef, undef, .slice none 0 0, .pointer (some ⟨w.heap.size, 0, none⟩), .int .i64 (x : Int), .int .u8 (s : Int), .int .i64 n, .func (.func 23) #[] #[.pointer (some ⟨w1.heap.size + 1, 0, none⟩), .pointer (some ⟨w1.heap.size, 0, none⟩)], .int .i64 (x : Int), undef, undef, undef, undef, undef], defers := [] }) ?assign ?body ?done ?stop
  case assign =>
    intro l x W K hK
    dsimp only [encQ]
    gi_wp2
    exact hK
  case body =>
    rintro l pre x W ⟨⟨v, hv, hrow, _⟩, hB, hsz⟩ hlt
    have hc := hv.cell
    have hlt7 := HML.out
    gi_wp2_with (gi_at_builtin; refine wpListIn_append_own _ rfl _ _ 25 rfl w2.heap.size 3 i0 (.int .i64 0) 1 8 Try.underlying25 hi hz0' hz1' hz2' rfl (by decide) _ _ _ rfl (hrow.alloc _) ⟨W.heap.size, 0, none⟩ 1 1 [.int .i64 (x : Int)] rfl rfl (cell_one_new _ _ _) (by simp [Value.oneCell']) (by unfold maxLen; omega) (by omega) (by simp; omega) ?_; intro v' w1 hown' hgrow _; obtain ⟨g', cap', rfl⟩ := ownsRow_succ hown'; obtain ⟨hv1, hv2, hr2, hk2, hb2, hm2⟩ := appendQ hv (by decide) hrow hsz h28 hown' hgrow; have hc1 := hv1.cell; have hf1 := hv1.frozen)
    exact ⟨hk2.from _, hm2, ⟨_, hv2, by simpa using hr2, trivial⟩, hB.trans hb2, Nat.le_trans hsz hm2.size⟩
  case done =>
    rintro D ys W hD hys ⟨⟨v, hv, hrow, _⟩, hB, _⟩ hK
    have hc := hv.cell
    subst hys
    have HRW := Lib.hid hrow
    have HBB := Lib.hid hB
    clear hrow hB
    go_wp2_with fail
    refine retM1Q rfl hK (v := v) ?_ ?_
    · simp [results, Try.results11, go_sem]
    · refine ⟨v, rfl, ?_, ext_putQ HBB.out (Nat.le_trans h28 hD) hK⟩
      have hr := ownsRow_putObj HRW.out (.deferred none) hK rfl
      refine ⟨hr.1, ?_⟩
      rcases hr.2 with h0 | ⟨g, cap, cur, h1, h2, h3⟩
      · exact .inl h0
      · exact .inr ⟨g, cap, cur, h1, Nat.le_trans h28 h2, h3⟩
  case stop =>
    rintro D c pre W _ _ h _
    exact h.elim
def memI (s : Nat) (n : Int) : List Int := (membersQ s n).map fun k : Nat => (k : Int)
theorem flat_int : ∀ l : List Nat, (l.map fun k : Nat => Value.int .i64 (k : Int)) = (l.map fun k : Nat => (k : Int)).flatMap intC
  | [] => rfl
  | a :: l => by rw [List.map_cons, List.map_cons, List.flatMap_cons, flat_int l]; rfl
theorem lsI_own {w : World} {b : Nat} {v : Value} {l : List Nat} (h : w.ownsRow b 3 1 v l.length (l.map fun k : Nat => Value.int .i64 (k : Int))) : ∃ A c, v = .slice A l.length c ∧ LsI w A l.length c (l.map fun k : Nat => (k : Int)) := by
  rw [flat_int] at h
  exact Ls.of_row (cells := intC) (fun _ => rfl) (by decide) (by simp) h
theorem members_of (s : Nat) (hs : s < 256) (n : Int) (w : World) :
    Calls Try.prog 11 #[.int .u8 (s : Int), .int .i64 n] w fun e w' =>
      ∃ A c, e = .returned (.slice A (memI s n).length c) ∧ LsI w' A (memI s n).length c (memI s n) ∧ Ext w w' :=
  (members_own s hs n w).mono fun e w' ⟨v, he, hrow, hx⟩ => by
    obtain ⟨A, c, rfl, hL⟩ := lsI_own hrow
    exact ⟨A, c, by unfold memI; rw [List.length_map]; exact he, by unfold memI; rw [List.length_map]; exact hL, hx⟩
theorem en_ret {b : Nat} {W : World} {a : Act} {D : Nat} {h : Bool} {R : Ending → World → Prop} (h4 : a.tmps.getD 4 undef = .pointer (some ⟨b, 0, none⟩))
    (hd : a.defers = [{ target := .collected D, args := #[] }]) (hK : W.heap[D]? = some (.deferred (some []))) (c1 : W.cell? ⟨b, 0, none⟩ = some (.bool h))
    (hR : R (.returned (.bool h)) (W.putObj D (.deferred none))) : bodyPostM Fence.wide 9 Try.prog Try.f13 R .ret a W := by
  refine retM1Q (v := .bool h) hd hK ?_ hR
  have k1 := cell_kept c1 (grownBy_putObj' _ D (.deferred none)) (fun r e => by cases e; exact ⟨_, hK, rfl⟩)
  have h4' : a.tmps[4]?.getD undef = .pointer (some ⟨b, 0, none⟩) := by simpa using h4
  simp [results, Try.results13, go_sem, h4', k1]
theorem ownF_blockQ {β : Type} (B g : Nat) (cs : β → Array Value) (t : TypeId) : OwnFrom B (fun (s : β) W => W.heap[g]? = some (.cells (cs s) t (0, 0))) := fun s W W' row hs hg hr => by
  refine (hg.block g (Array.getElem?_eq_some_iff.1 hs).1 (fun e => ?_)).trans hs
  obtain ⟨_, o, ho, hoc⟩ := hr g e.symm
  rw [hs] at ho
  injection ho with ho
  subst ho
  cases hoc
theorem heap_setQ {W : World} {D g k : Nat} {o : Obj} {x : Value} (hne : D ≠ g) (h : W.heap[D]? = some o) : (W.setCell ⟨g, k, none⟩ x).heap[D]? = some o :=
  heap_mod h (Mod.setCell (F := fun i => i = g) (Mod.refl (fun i => i = g) W) (p := ⟨g, k, none⟩) (.inl rfl) x) hne
set_option maxHeartbeats 1600000 in
theorem enough_of (s : Nat) (hs : s < 256) (n : Int) (w : World) :
    Calls Try.prog 13 #[.int .u8 (s : Int), .int .i64 n] w fun e w' => e = .returned (.bool (enoughQ s n)) ∧ Ext w w' := by
  have HMo := Lib.hid (fun V => most_of n V)
  obtain ⟨w1, hw1⟩ : ∃ w1, w.alloc (.cells #[.bool false] 4) = w1 := ⟨_, rfl⟩
  have hE1 : Ext w w1 := by rw [← hw1]; exact (Ext.refl w).alloc _
  have hs1 : w1.heap.size = w.heap.size + 1 := by rw [← hw1]; simp
  have r1 : w1.heap[w.heap.size]? = some (.cells #[.bool false] 4 (0, 0)) := by rw [← hw1]; exact heap_alloc_new w _
  have HQ := Lib.hid (show enoughQ s n = decide (0 < mostQ n ∧ mostQ n ≤ (membersQ s n).length) from rfl)
  have hm4 : mostQ n ≤ 4 := by
    unfold mostQ
    split
    · decide
    · split
      · decide
      · split <;> decide
  obtain ⟨m, hm⟩ : ∃ m, mostQ n = m := ⟨_, rfl⟩
  rw [hm] at HMo HQ hm4
  have HM0 := Lib.hid (show m = 0 → (membersQ s n).length = 0 by intro h; unfold membersQ; rw [if_pos (by omega)]; rfl)
  obtain ⟨w2, hw2⟩ : ∃ w2, w1.alloc (.cells #[.int .i64 (m : Int)] 3) = w2 := ⟨_, rfl⟩
  have hE2 : Ext w1 w2 := by rw [← hw2]; exact (Ext.refl w1).alloc _
  have hs2 : w2.heap.size = w1.heap.size + 1 := by rw [← hw2]; simp
  have r2 : w2.heap[w1.heap.size]? = some (.cells #[.int .i64 (m : Int)] 3 (0, 0)) := by rw [← hw2]; exact heap_alloc_new w1 _
  have r1 : w2.heap[w.heap.size]? = some (.cells #[.bool false] 4 (0, 0)) := (hE2.block _ (by omega)).trans r1
  obtain ⟨w3, hw3⟩ : ∃ w3, (w2.alloc (.cells #[.int .u8 (s : Int)] 22)).alloc (.cells #[.int .i64 n] 3) = w3 := ⟨_, rfl⟩
  have hE3 : Ext w2 w3 := by rw [← hw3]; exact ((Ext.refl w2).alloc _).alloc _
  have hs3 : w3.heap.size = w2.heap.size + 2 := by rw [← hw3]; simp
  have r1 := (hE3.block _ (Array.getElem?_eq_some_iff.1 r1).1).trans r1
  have r2 := (hE3.block _ (Array.getElem?_eq_some_iff.1 r2).1).trans r2
  have hst := below_stops 8 (by omega) (w2.heap.size + 1) w2.heap.size (fun i => (i = w.heap.size ∨ i = w1.heap.size) ∨ w3.heap.size ≤ i) s hs n w3 ⟨by omega, by omega⟩ (by rw [← hw3]; simp [go_sem]) (by rw [← hw3]; simp [go_sem])
  have HST := Lib.hid hst
  have HB := Lib.hid (below_of (s : Int) n w2)
  rw [hw3] at HB
  have HE := Lib.hid ((hE1.trans hE2).trans hE3)
  have HSZ := Lib.hid (And.intro hs1 (And.intro hs2 hs3))
  have h38 : w.heap.size ≤ w3.heap.size := by omega
  have hne : w.heap.size ≠ w1.heap.size := by omega
  have HR1 := Lib.hid r1
  have HR2 := Lib.hid r2
  have HW1 := Lib.hid hw1
  have HW2 := Lib.hid hw2
  generalize membersQ s n = M at *
  generalize enoughQ s n = q at *
  clear hst hE1 hE2 hE3 hs1 hs2 hs3 hm r1 r2 hw1 hw2 hw3
  refine calls_marksQ Try.func13 rfl ?_
  simp only [Try.ntmps13, List.size_toArray, List.length_cons, List.length_nil, Nat.reduceAdd, Nat.reduceSub, Array.replicate_succ, Array.replicate_zero, List.push_toArray, List.append_toArray, List.nil_append, List.cons_append]
  go_wp2_with fail
  rw [HW1.out]
  refine (HMo.out _).mono ?_
  rintro e w1' ⟨rfl, rfl⟩
  go_wp2_with fail
  rw [HW2.out]
  refine HB.out.mono ?_
  rintro e w3' ⟨rfl, hw⟩
  have hw := hw.symm
  subst hw
  go_wp2_with fail
  refine (wpIn_wide (n := 9)).1 ?_
  refine wpIn_rangeFunc_ownG (F := Fence.wide) (n := 9) rfl (by omega) (gf := 23) (lb := #[.pointer (some ⟨w2.heap.size + 1, 0, none⟩), .pointer (some ⟨w2.heap.size, 0, none⟩)]) rfl trivial (enters_of Try.func23 (by kernel_rfl) rfl)
    HST.out (fun h k => h.trans k fun _ hi => .inl hi) (fun W l o o' hl ho _ _ => mod_putQ (w := w3) l o o' (fun k hk => .inr hk) hl ho) (Below.refl _ _) (fun _ => rfl)
    (fun pre V => (V.heap[w.heap.size]? = some (.cells #[.bool false] 4 (0, 0)) ∧ V.heap[w1.heap.size]? = some (.cells #[.int .i64 ((m : Int) - (pre.length : Int))] 3 (0, 0))) ∧ (0 < m → pre.length < m) ∧ Below w.heap.size w V)
    (fun c pre V => V.heap[w.heap.size]? = some (.cells #[.bool true] 4 (0, 0)) ∧ (c = .ret ∧ 0 < m ∧ pre.length = m) ∧ Below w.heap.size w V)
    (OwnFrom.and (OwnFrom.and (ownF_blockQ _ _ (fun _ : List Nat => #[.bool false]) _) (ownF_blockQ _ _ (fun pre : List Nat => #[.int .i64 ((m : Int) - (pre.length : Int))]) _)) (OwnFrom.and (fun _ _ _ _ hs _ _ => hs) (ownFrom_below (Nat.le_refl _) h38)))
    (fun c => OwnFrom.and (ownF_blockQ _ _ (fun _ : List Nat => #[.bool true]) _) (OwnFrom.and (fun _ _ _ _ hs _ _ => hs) (ownFrom_below (Nat.le_refl _) h38)))
    ⟨⟨HR1.out, by simpa using HR2.out⟩, fun h => h, HE.out⟩
    (fun x => { tmps := #[.int .u8 (s : Int), .int .i64 n, undef, undef, .pointer (some ⟨w.heap.size, 0, none⟩), .pointer (some ⟨w1.heap.size, 0, none⟩), .int .i64 n, .int .i64 (m : Int), .int .u8 (s : Int), .int .i64 n, .func (.func 23) #[] #[.pointer (some ⟨w2.heap.size + 1, 0, none⟩), .pointer (some ⟨w2.heap.size, 0, none⟩)], .int .i64 (x : Int), undef, undef, undef, undef], defers := [] }) ?assign ?body ?done ?stop
  case assign =>
    intro l x W K hK
    dsimp only [encQ]
    gi_wp2
    simpa using hK
  case body =>
    rintro l pre x V ⟨⟨z1, z2⟩, hlm, hB⟩ hlt
    have hm0 : 0 < m := by
      rcases Nat.eq_zero_or_pos m with h | h
      · have := HM0.out h; omega
      · exact h
    have hlm := hlm hm0
    have hc := cell_of_row V _ 0 _ _ _ z2
    have hf := frozen_of_row V _ 0 _ _ z2
    have hl1 := (Array.getElem?_eq_some_iff.1 z2).1
    have hl0 := (Array.getElem?_eq_some_iff.1 z1).1
    have c0 := cell_of_row V _ 0 _ _ _ z1
    have f0 := frozen_of_row V _ 0 _ _ z1
    have Z1 := Lib.hid z1
    have Z2 := Lib.hid z2
    clear z1 z2
    by_cases he : pre.length + 1 = m
    · have e0 : (m : Int) - (pre.length : Int) - 1 = 0 := by omega
      gi_wp2
      refine ⟨((KeepsOthers.setCell _ _ _).trans (KeepsOthers.setCell _ _ _)).from _, row_setQ 0 (heap_setQ (k := 0) (x := .int .i64 0) hne Z1.out) (.bool true) rfl, ⟨rfl, hm0, by simpa using he⟩, ?_⟩
      exact (hB.setCell (p := ⟨w1.heap.size, 0, none⟩) (by have := HSZ.out.1; show w.heap.size ≤ w1.heap.size; omega) _).setCell (p := ⟨w.heap.size, 0, none⟩) (Nat.le_refl _) _
    · have e0 : ((m : Int) - (pre.length : Int) - 1 == 0) = false := by simp; omega
      gi_wp2
      refine ⟨(KeepsOthers.setCell _ _ _).from _, (Mod.refl _ _).setCell (p := ⟨w1.heap.size, 0, none⟩) (.inl (.inl (.inr rfl))) _, ⟨heap_setQ (k := 0) hne Z1.out, ?_⟩, fun _ => by simp; omega, ?_⟩
      · have e1 : ((m : Int) - ((pre ++ [x]).length : Int)) = (m : Int) - (pre.length : Int) - 1 := by simp; omega
        rw [e1]
        exact row_setQ 0 Z2.out _ rfl
      · exact hB.setCell (p := ⟨w1.heap.size, 0, none⟩) (by have := HSZ.out.1; show w.heap.size ≤ w1.heap.size; omega) _
  case done =>
    rintro D ys V hD hys ⟨⟨z1, z2⟩, hlm, hB⟩ hK
    have hq : q = false := by
      rw [HQ.out, decide_eq_false_iff_not]
      rintro ⟨h1, h2⟩
      have := hlm h1
      rw [hys] at this
      omega
    have hc := cell_of_row V _ 0 _ _ _ z1
    have hf := frozen_of_row V _ 0 _ _ z1
    have hl1 := (Array.getElem?_eq_some_iff.1 z1).1
    have HK := Lib.hid hK
    have HBB := Lib.hid hB
    have HZ := Lib.hid z1
    subst hq
    clear hys hlm hB hK z1 z2
    go_wp2_with fail
    have hDw : D ≠ w.heap.size := by
      have := HSZ.out
      omega
    refine en_ret rfl rfl (heap_setQ (k := 0) (x := .bool false) hDw HK.out) (cell_of_row _ _ 0 _ _ _ (row_setQ 0 HZ.out (.bool false) rfl)) ?_
    exact ⟨rfl, ext_putQ (HBB.out.setCell (p := ⟨w.heap.size, 0, none⟩) (Nat.le_refl _) _) (Nat.le_trans h38 hD) (heap_setQ (k := 0) (x := .bool false) hDw HK.out)⟩
  case stop =>
    rintro D c pre V hD hpre ⟨z1, ⟨rfl, hm0, hpm⟩, hB⟩ hK
    have hq : q = true := by
      rw [HQ.out, decide_eq_true_iff]
      exact ⟨hm0, by omega⟩
    subst hq
    gi_wp2
    refine en_ret rfl rfl hK (cell_of_row _ _ 0 _ _ _ z1) ?_
    exact ⟨rfl, ext_putQ hB (Nat.le_trans h38 hD) hK⟩
end
section
open Go Go.RowKit
theorem ofn_of (n : Int) (w : World) : Calls Try.prog 16 #[.int .i64 n] w fun e w' => (∃ m : Nat, e = .returned (.int .i64 (m : Int)) ∧ (m = 3 ∨ m = 5 ∨ m = 7)) ∧ w = w' := by
  have h3 : (IntKind.u64.wrap n).tmod 3 = 0 ∨ (IntKind.u64.wrap n).tmod 3 = 1 ∨ (IntKind.u64.wrap n).tmod 3 = 2 := by
    have h0 : 0 ≤ IntKind.u64.wrap n := by rw [IntKind.wrap_u64]; omega
    rw [Int.tmod_eq_emod_of_nonneg h0]
    omega
  go_enter Try.func16, Try.ntmps16
  go_wp2_with fail
  generalize (IntKind.u64.wrap n).tmod 3 = t at *
  go_ret
  rcases h3 with rfl | rfl | rfl
  · exact ⟨⟨3, rfl, .inl rfl⟩, rfl⟩
  · exact ⟨⟨5, rfl, .inr (.inl rfl)⟩, rfl⟩
  · exact ⟨⟨7, rfl, .inr (.inr rfl)⟩, rfl⟩
theorem lsI_lit {w : World} {b : Nat} {cs : Array Value} {t : TypeId} (l : List Int) (hl : (l.flatMap intC).toArray = cs) (hlen : l.length ≤ 1000) (h : w.heap[b]? = some (.cells cs t (0, 0))) : LsI w (some ⟨b, 0, none⟩) l.length l.length l := by
  refine ⟨rfl, Nat.le_refl _, by omega, fun _ => ⟨b, 0, rfl, (Array.getElem?_eq_some_iff.1 h).1, fun j a ha k v hv => ?_⟩, fun e => by cases e⟩
  have hk : k < 1 := by have := (List.getElem?_eq_some_iff.1 hv).1; exact this
  rw [Nat.zero_add, cell_of_row w b _ _ _ _ h, ← hl, List.getElem?_toArray, flat_get (cells := intC) (N := 1) (fun _ => rfl) (by decide) l j k hk, ha]
  exact hv
theorem of3_of (x y z : Int) (w : World) (s : Nat) (hs : ofQ 0 [x, y, z] = s) : Calls Try.prog 19 #[.slice (some ⟨w.heap.size, 0, none⟩) 3 3] (w.alloc (.cells #[.int .i64 x, .int .i64 y, .int .i64 z] 3)) fun e w' => e = .returned (.int .u8 (s : Int)) ∧ Ext w w' := by
  subst hs
  exact (of_of (lsI_lit (t := 3) [x, y, z] rfl (by simp) (heap_alloc_new w (.cells #[.int .i64 x, .int .i64 y, .int .i64 z] 3)))).mono fun _ _ ⟨h, hx⟩ => ⟨h, by rw [← hx]; exact (Ext.refl w).alloc _⟩
set_option maxHeartbeats 3200000 in
theorem quawake_any (w : World) : Calls Try.prog 15 #[] w fun e w' => e = .returned (.bool true) ∧ Ext w w' := by
  have HX := Lib.hid (Ext.refl w)
  go_enter Try.func15, Try.ntmps15
  go_wp2_with fail
  refine (of3_of 0 2 9 w 5 (by decide)).mono ?_
  rintro e w1 ⟨rfl, hx⟩
  have HX := Lib.hid (HX.out.trans hx)
  clear hx
  go_wp2_with fail
  refine (of3_of 0 2 4 _ 21 (by decide)).mono ?_
  rintro e w2 ⟨rfl, hx⟩
  have HX := Lib.hid (HX.out.trans hx)
  clear hx
  go_wp2_with fail
  refine (members_of 21 (by decide) 3 _).mono ?_
  rw [show memI 21 3 = [0, 2] from by decide +kernel]
  rintro e w3 ⟨A, c, rfl, hl, hx⟩
  have HX := Lib.hid (HX.out.trans hx)
  have HL := Lib.hid hl
  have hcap := hl.cap
  have hmost := hl.most
  clear hx hl
  go_wp2_with fail
  refine (of3_of 0 2 4 _ 21 (by decide)).mono ?_
  rintro e w4 ⟨rfl, hx⟩
  have HX := Lib.hid (HX.out.trans hx)
  have HL := Lib.hid (HL.out.ext hx)
  clear hx
  obtain ⟨g, o, a, hA, hg, ha, hcell⟩ := HL.out.at_ (j := 0) (by decide)
  obtain ⟨g2, o2, a2, hA2, hg2, ha2, hcell2⟩ := HL.out.at_ (j := 1) (by decide)
  subst hA
  injection hA2 with hA2
  injection hA2 with e1 e2
  subst e1 e2
  injection ha with ha
  injection ha2 with ha2
  subst ha ha2
  have c0 : w4.cell? ⟨g, o, none⟩ = some (.int .i64 0) := hcell 0 _ rfl
  have c1 : w4.cell? ⟨g, o + 1, none⟩ = some (.int .i64 2) := hcell2 0 _ rfl
  clear hcell hcell2
  go_wp2_with fail
  refine (most_of 3 _).mono ?_
  rintro e w5 ⟨rfl, rfl⟩
  go_wp2_with fail
  refine (most_of 5 _).mono ?_
  rintro e w5 ⟨rfl, rfl⟩
  go_wp2_with fail
  refine (most_of 7 _).mono ?_
  rintro e w5 ⟨rfl, rfl⟩
  go_wp2_with fail
  refine (most_of 4 _).mono ?_
  rintro e w5 ⟨rfl, rfl⟩
  go_wp2_with fail
  refine (has_of 5 (by decide) 2 _).mono ?_
  rintro e w5 ⟨rfl, rfl⟩
  go_wp2_with fail
  refine (has_of 5 (by decide) 1 _).mono ?_
  rintro e w5 ⟨rfl, rfl⟩
  go_wp2_with fail
  refine (has_of 5 (by decide) 9 _).mono ?_
  rintro e w5 ⟨rfl, rfl⟩
  go_wp2_with fail
  refine (enough_of 21 (by decide) 3 _).mono ?_
  rw [show enoughQ 21 3 = true from by decide +kernel]
  rintro e w5 ⟨rfl, hx⟩
  have HX := Lib.hid (HX.out.trans hx)
  clear hx
  go_wp2_with fail
  refine (enough_of 21 (by decide) 5 _).mono ?_
  rw [show enoughQ 21 5 = true from by decide +kernel]
  rintro e w6 ⟨rfl, hx⟩
  have HX := Lib.hid (HX.out.trans hx)
  clear hx
  go_wp2_with fail
  refine (enough_of 21 (by decide) 7 _).mono ?_
  rw [show enoughQ 21 7 = false from by decide +kernel]
  rintro e w7 ⟨rfl, hx⟩
  have HX := Lib.hid (HX.out.trans hx)
  clear hx
  go_wp2_with fail
  go_ret
  exact ⟨rfl, HX.out⟩
end
section
open Go Go.RowKit
theorem u8_natM {v : Int} (h : (Lit.int .u8 v).wf = true) : ∃ s : Nat, v = (s : Int) ∧ s < 256 := by
  have h2 := bounds_u8 h
  exact ⟨v.toNat, by omega, by omega⟩
theorem enough_iff {m : Nat} (hm : m = 3 ∨ m = 5 ∨ m = 7) (s : Nat) : enoughQ s (m : Int) = decide (m / 2 + 1 ≤ (memQ s m).length) := by
  rcases hm with rfl | rfl | rfl
  · show decide (0 < 2 ∧ 2 ≤ (memQ s 3).length) = _
    simp
  · show decide (0 < 3 ∧ 3 ≤ (memQ s 5).length) = _
    simp
  · show decide (0 < 4 ∧ 4 ≤ (memQ s 7).length) = _
    simp
theorem memI_eq {m : Nat} (hm : m = 3 ∨ m = 5 ∨ m = 7) (s : Nat) : memI s (m : Int) = (memQ s m).map fun k : Nat => (k : Int) := by
  rcases hm with rfl | rfl | rfl <;> rfl
theorem most_eq {m : Nat} (hm : m = 3 ∨ m = 5 ∨ m = 7) : mostQ (m : Int) = m / 2 + 1 := by
  rcases hm with rfl | rfl | rfl <;> rfl
set_option maxHeartbeats 1600000 in
theorem quorumMeet_law (va vb n : Int) (w : World) (hva : (Lit.int .u8 va).wf = true) (hvb : (Lit.int .u8 vb).wf = true) (_ : (Lit.int .i64 n).wf = true) :
    Calls Try.prog 4 #[.int .u8 va, .int .u8 vb, .int .i64 n] w fun e w' => e = .returned (.bool true) ∧ Below w.heap.size w w' := by
  show Calls Try.prog 4 #[.int .u8 va, .int .u8 vb, .int .i64 n] w fun e w' => e = .returned (.bool true) ∧ Ext w w'
  obtain ⟨a, rfl, ha⟩ := u8_natM hva
  obtain ⟨b, rfl, hb⟩ := u8_natM hvb
  have hai : (a : Int) < 256 := by omega
  have hbi : (b : Int) < 256 := by omega
  clear hva hvb
  go_enter Try.func4, Try.ntmps4
  go_wp2_with fail
  refine (quawake_any _).mono ?_
  rintro e w1 ⟨rfl, hx⟩
  have HX := Lib.hid hx
  clear hx
  go_wp2_with fail
  refine (ofn_of n _).mono ?_
  rintro e w2 ⟨⟨m, rfl, hm⟩, rfl⟩
  have HE1 := Lib.hid (fun V => enough_of a ha (m : Int) V)
  have HE2 := Lib.hid (fun V => enough_of b hb (m : Int) V)
  obtain ⟨qa, hqa⟩ : ∃ q, enoughQ a (m : Int) = q := ⟨_, rfl⟩
  obtain ⟨qb, hqb⟩ : ∃ q, enoughQ b (m : Int) = q := ⟨_, rfl⟩
  rw [hqa] at HE1
  rw [hqb] at HE2
  have HMT : Hid (qa = true → qb = true → ∃ i, i < m ∧ a.testBit i = true ∧ b.testBit i = true) := Lib.hid (by
    rintro rfl rfl
    rw [enough_iff hm, decide_eq_true_iff] at hqa hqb
    exact meetQ hqa hqb)
  have HMM := Lib.hid (fun V => members_of a ha (m : Int) V)
  have hml : (memI a (m : Int)).length ≤ 7 ∧ ∀ (j : Nat) (x : Int), (memI a (m : Int))[j]? = some x → x < (m : Int) := by
    rw [memI_eq hm]
    refine ⟨?_, fun j x h => ?_⟩
    · rw [List.length_map]
      have := memQ_len a m
      omega
    · rw [List.getElem?_map] at h
      obtain ⟨k, hk, rfl⟩ := Option.map_eq_some_iff.1 h
      have := (memQ_mem.1 (List.mem_of_getElem? hk)).1
      omega
  have HIN : Hid (∀ i, i < m → a.testBit i = true → ∃ j, (memI a (m : Int))[j]? = some (i : Int)) := Lib.hid fun i hi hb => by
    rw [memI_eq hm]
    obtain ⟨j, hj⟩ := List.getElem?_of_mem (memQ_mem.2 ⟨hi, hb⟩)
    exact ⟨j, by rw [List.getElem?_map, hj]; rfl⟩
  have hm7 : m ≤ 7 := by omega
  obtain ⟨hl7, hlm⟩ := hml
  have HLM := Lib.hid hlm
  generalize memI a (m : Int) = M at *
  clear hm hqa hqb hlm
  cases qa with
  | false =>
    go_wp2_with fail
    refine (HE1.out _).mono ?_
    rintro e w3 ⟨rfl, hx⟩
    have HX := Lib.hid (HX.out.trans hx)
    clear hx
    go_wp2_with fail
    go_ret
    exact ⟨rfl, HX.out⟩
  | true =>
  cases qb with
  | false =>
    go_wp2_with fail
    refine (HE1.out _).mono ?_
    rintro e w3 ⟨rfl, hx⟩
    have HX := Lib.hid (HX.out.trans hx)
    clear hx
    go_wp2_with fail
    refine (HE2.out _).mono ?_
    rintro e w4 ⟨rfl, hx⟩
    have HX := Lib.hid (HX.out.trans hx)
    clear hx
    go_wp2_with fail
    go_ret
    exact ⟨rfl, HX.out⟩
  | true =>
  go_wp2_with fail
  refine (HE1.out _).mono ?_
  rintro e w3 ⟨rfl, hx⟩
  have HX := Lib.hid (HX.out.trans hx)
  clear hx
  go_wp2_with fail
  refine (HE2.out _).mono ?_
  rintro e w4 ⟨rfl, hx⟩
  have HX := Lib.hid (HX.out.trans hx)
  clear hx
  go_wp2_with fail
  refine (HMM.out _).mono ?_
  rintro e w5 ⟨A, c, rfl, hl, hx⟩
  have HX := Lib.hid (HX.out.trans hx)
  have HL := Lib.hid hl
  have hcap := hl.cap
  have hmost := hl.most
  clear hx hl
  obtain ⟨N, hN⟩ : ∃ N, M.length = N := ⟨_, rfl⟩
  rw [hN] at HL hcap hl7 ⊢
  go_wp2_with fail
  go_loopw [10] (fun v wr => ∃ k : Nat, k ≤ N ∧ v = .int .i64 (k : Int) ∧ wr = w5 ∧ Hid (∀ (j : Nat) (x : Int), j < k → M[j]? = some x → hasQ b x = false)) (fun v _ => N - (intOf v).toNat)
  case atStart => exact ⟨0, by omega, rfl, rfl, Lib.hid fun j x h => by omega⟩
  case round =>
    obtain ⟨k, hk, rfl, rfl, HF⟩ := hrel
    by_cases hlt : k < N
    · obtain ⟨g, o, x, hA, hg, hx, hcell⟩ := HL.out.at_ hlt
      subst hA
      have hc0 := hcell 0 _ rfl
      rw [Nat.mul_one, Nat.add_zero] at hc0
      have HAT := Lib.hid hx
      have hxm := HLM.out k x hx
      have hlt' : (k : Int) < (N : Int) := by omega
      have HH := Lib.hid (fun V => has_of b hb x V)
      obtain ⟨q, hq⟩ : ∃ q, hasQ b x = q := ⟨_, rfl⟩
      rw [hq] at HH
      have HQ := Lib.hid hq
      clear hcell hx hq
      cases q with
      | true =>
        go_wp2_with fail
        refine (HH.out _).mono ?_
        rintro e w6 ⟨rfl, rfl⟩
        go_wp2_with fail
        go_ret
        exact ⟨rfl, HX.out⟩
      | false =>
        go_wp2_with fail
        refine (HH.out _).mono ?_
        rintro e w6 ⟨rfl, rfl⟩
        go_wp2_with fail
        go_roundw
        case rel => exact ⟨k + 1, by omega, by go_num, trivial, Lib.hid fun j y hj hy => by
          by_cases e : j = k
          · subst e
            rw [HAT.out] at hy
            injection hy with hy
            subst hy
            exact HQ.out
          · exact HF.out j y (by omega) hy⟩
        case measure => simp [intOf]; omega
    · exfalso
      obtain ⟨i, hi, h1, h2⟩ := HMT.out (by first | trivial | rfl) (by first | trivial | rfl)
      obtain ⟨j, hj⟩ := HIN.out i hi h1
      have hjl := (List.getElem?_eq_some_iff.1 hj).1
      have h3 := HF.out j _ (by omega) hj
      unfold hasQ at h3
      rw [decide_eq_true (show (0 : Int) ≤ (i : Int) ∧ (i : Int) < 7 by omega), Bool.true_and, Int.toNat_natCast, h2] at h3
      cases h3
end
section
open Go Go.RowKit
set_option maxHeartbeats 600000 in
theorem rmost_of (n : Int) (w : World) : Calls Try.prog 9 #[.int .i64 n] w fun e w' => e = .returned (.int .i64 (mostQ n : Int)) ∧ w = w' := by
  by_cases hm : mostQ n = 0
  · have h3 : (n == 3) = false := by simp; rintro rfl; cases hm
    have h5 : (n == 5) = false := by simp; rintro rfl; cases hm
    have h7 : (n == 7) = false := by simp; rintro rfl; cases hm
    have n3 : (n != 3) = true := by simp at h3 ⊢; exact h3
    have n5 : (n != 5) = true := by simp at h5 ⊢; exact h5
    have n7 : (n != 7) = true := by simp at h7 ⊢; exact h7
    have HM := Lib.hid hm
    clear hm
    go_enter Try.func9, Try.ntmps9
    go_wp2_with fail
    go_ret
    exact ⟨by rw [HM.out]; rfl, rfl⟩
  · have hn : n = 2 * (mostQ n : Int) - 1 := by rcases mostQ_cases hm with rfl | rfl | rfl <;> decide
    have hm4 : 2 ≤ mostQ n ∧ mostQ n ≤ 4 := by rcases mostQ_cases hm with rfl | rfl | rfl <;> decide
    have hx : (n != 3) = true ∧ (n != 5) = true ∧ (n != 7) = false ∨ (n != 3) = true ∧ (n != 5) = false ∨ (n != 3) = false := by rcases mostQ_cases hm with rfl | rfl | rfl <;> decide
    generalize mostQ n = m at *
    subst hn
    clear hm
    have main : ∀ (R : Ending → World → Prop), True := fun _ => trivial
    rcases hx with ⟨h3, h5, h7⟩ | ⟨h3, h5⟩ | h3
    all_goals
      go_enter Try.func9, Try.ntmps9
      go_wp2_with fail
      go_loopw [3] (fun v wr => ∃ k : Nat, k ≤ m ∧ v = .int .i64 (k : Int) ∧ wr = w) (fun v _ => m - (intOf v).toNat)
      case atStart => exact ⟨0, by omega, rfl, rfl⟩
      case round =>
        obtain ⟨k, hk, rfl, rfl⟩ := hrel
        by_cases hlt : k < m
        · have h1 : 2 * (k : Int) ≤ 2 * (m : Int) - 1 := by omega
          go_wp2_with fail
          go_roundw
          case rel => exact ⟨k + 1, by omega, by go_num, trivial⟩
          case measure => simp [intOf]; omega
        · obtain rfl : k = m := by omega
          have h1 : 2 * (k : Int) - 1 < 2 * (k : Int) := by omega
          go_wp2_with fail
          go_ret
          exact ⟨rfl, rfl⟩
set_option maxHeartbeats 600000 in
theorem rhas_of (s : Nat) (hs : s < 256) (i : Int) (w : World) : Calls Try.prog 21 #[.int .u8 (s : Int), .int .i64 i] w fun e w' => e = .returned (.bool (hasQ s i)) ∧ w = w' := by
  obtain ⟨b, hb⟩ : ∃ b, hasQ s i = b := ⟨_, rfl⟩
  rw [hb]
  have HB := Lib.hid hb
  clear hb
  by_cases h0 : i < 0
  · have hb := HB.out
    unfold hasQ at hb
    rw [decide_eq_false fun h => by omega] at hb
    subst hb
    go_enter Try.func21, Try.ntmps21
    go_wp2_with fail
    go_ret
    exact ⟨rfl, rfl⟩
  by_cases h6 : 6 < i
  · have hb := HB.out
    unfold hasQ at hb
    rw [decide_eq_false fun h => by omega] at hb
    subst hb
    go_enter Try.func21, Try.ntmps21
    go_wp2_with fail
    go_ret
    exact ⟨rfl, rfl⟩
  obtain ⟨j, rfl⟩ : ∃ j : Nat, i = (j : Int) := ⟨i.toNat, by omega⟩
  have hj : j ≤ 6 := by omega
  have HB2 : Hid ((((s / 2 ^ j : Nat) : Int) % 2 == 1) = b) := Lib.hid (by
    have hb := HB.out
    unfold hasQ at hb
    rw [decide_eq_true (show (0 : Int) ≤ (j : Int) ∧ (j : Int) < 7 by omega), Bool.true_and, Int.toNat_natCast, ← has_div ⟨s, hs⟩ ⟨j, by omega⟩] at hb
    rw [← hb]
    simp only
    rw [Bool.eq_iff_iff, beq_iff_eq, decide_eq_true_iff]
    omega)
  clear h0 h6
  go_enter Try.func21, Try.ntmps21
  go_wp2_with fail
  go_loopw [0, 5] (fun v i wr => ∃ k : Nat, k ≤ j ∧ i = .int .i64 (k : Int) ∧ v = .int .u8 ((s / 2 ^ k : Nat) : Int) ∧ wr = w) (fun _ i _ => j - (intOf i).toNat)
  case atStart => exact ⟨0, by omega, rfl, by simp, rfl⟩
  case round =>
    obtain ⟨k, hk, rfl, rfl, rfl⟩ := hrel
    have hq : s / 2 ^ k < 256 := Nat.lt_of_le_of_lt (Nat.div_le_self _ _) hs
    have HQ2 := Lib.hid (show s / 2 ^ (k + 1) = s / 2 ^ k / 2 by rw [Nat.pow_succ, Nat.div_div_eq_div_mul])
    by_cases hlt : k < j
    · generalize s / 2 ^ k = q at *
      go_wp2_with fail
      go_roundw
      case rel => exact ⟨k + 1, by omega, by go_num, by rw [HQ2.out]; go_num, trivial⟩
      case measure => simp [intOf]; omega
    · obtain rfl : k = j := by omega
      generalize s / 2 ^ k = q at *
      have hb2 := HB2.out
      go_wp2_with fail
      go_ret
      exact ⟨rfl, rfl⟩
end
section
open Go Go.RowKit
set_option maxHeartbeats 800000 in
theorem rmembers_own (s : Nat) (hs : s < 256) (n : Int) (w : World) :
    Calls Try.prog 12 #[.int .u8 (s : Int), .int .i64 n] w fun e w' =>
      ∃ v, e = .returned v ∧ w'.ownsRow w.heap.size 3 1 v (membersQ s n).length ((membersQ s n).map fun k : Nat => Value.int .i64 (k : Int)) ∧ Ext w w' := by
  obtain ⟨i0, hi, hz0, hz1, hz2⟩ := info_parts int_infoQ
  have HMo := Lib.hid (fun V => rmost_of n V)
  by_cases hm : mostQ n = 0
  · have HE := Lib.hid (show membersQ s n = [] by unfold membersQ; rw [if_pos hm])
    rw [hm] at HMo
    clear hm
    by_cases hn : 0 < n
    all_goals
      go_enter Try.func12, Try.ntmps12
      go_wp2_with fail
      go_loopw [5, 6] (fun v i wr => v = .slice none 0 0 ∧ i = .int .i64 0 ∧ wr = w) (fun _ _ _ => 0)
      case atStart => exact ⟨rfl, rfl, rfl⟩
      case round =>
        obtain ⟨rfl, rfl, rfl⟩ := hrel
        go_wp2_with fail
        first
          | (refine (HMo.out _).mono ?_
             rintro e w1 ⟨rfl, rfl⟩
             go_wp2_with fail)
          | skip
        go_ret
        exact ⟨_, rfl, by rw [HE.out]; exact World.ownsRow_nil _ _ _ _, Ext.refl _⟩
  · have HE := Lib.hid (show membersQ s n = memQ s n.toNat by unfold membersQ; rw [if_neg hm])
    have hn : 0 ≤ n ∧ n ≤ 7 := by rcases mostQ_cases hm with rfl | rfl | rfl <;> omega
    have hmp : (0 : Int) < (mostQ n : Int) := by omega
    generalize mostQ n = mq at *
    clear hm
    obtain ⟨N, rfl⟩ : ∃ N : Nat, n = (N : Int) := ⟨n.toNat, by omega⟩
    rw [Int.toNat_natCast] at HE
    have hN : N ≤ 7 := by omega
    clear hn
    go_enter Try.func12, Try.ntmps12
    go_wp2_with fail
    go_loopw [5, 6] (fun v i wr => ∃ k : Nat, k ≤ N ∧ i = .int .i64 (k : Int) ∧ Hid (wr.ownsRow w.heap.size 3 1 v (memQ s k).length ((memQ s k).map fun k : Nat => Value.int .i64 (k : Int))) ∧ Below w.heap.size w wr) (fun _ i _ => N - (intOf i).toNat)
    case atStart => exact ⟨0, Nat.zero_le _, rfl, Lib.hid (World.ownsRow_nil _ _ _ _), Below.refl _ _⟩
    case round =>
      obtain ⟨k, hk, rfl, HO, hbk⟩ := hrel
      have HBk := Lib.hid hbk
      have hsz := hbk.size
      have hml := memQ_len s k
      clear hbk
      by_cases hlt : k < N
      · have hlt' : (k : Int) < (N : Int) := by omega
        have HH := Lib.hid (fun V => rhas_of s hs (k : Int) V)
        have e7 : hasQ s (k : Int) = s.testBit k := by unfold hasQ; rw [decide_eq_true (show (0 : Int) ≤ (k : Int) ∧ (k : Int) < 7 by omega)]; rfl
        rw [e7] at HH
        have HS := Lib.hid (memQ_succ s k)
        obtain ⟨b, hb⟩ : ∃ b, s.testBit k = b := ⟨_, rfl⟩
        rw [hb] at HH
        rw [hb] at HS
        clear hb e7
        go_wp2_with fail
        refine (HMo.out _).mono ?_
        rintro e w1 ⟨rfl, rfl⟩
        go_wp2_with fail
        refine (HH.out _).mono ?_
        rintro e w1 ⟨rfl, rfl⟩
        cases b with
        | false =>
          go_wp2_with fail
          go_roundw
          case rel => exact ⟨k + 1, by omega, by go_num, by rw [HS.out]; exact HO, HBk.out⟩
          case measure => simp [intOf]; omega
        | true =>
          go_wp2_with (at_builtin; refine wpList_append_own _ rfl _ _ 25 rfl w.heap.size 3 i0 (.int .i64 0) 1 8 Try.underlying25 hi hz0 hz1 hz2 rfl (by decide) _ _ _ rfl (HO.out.alloc _) ⟨wr.heap.size, 0, none⟩ 1 1 [.int .i64 (k : Int)] rfl rfl ?c1 ?c2 ?c3 ?c4 ?c5 ?_)
          case c1 =>
            intro j u hj
            match j, hj with
            | 0, hj => simp at hj; subst hj; simp [Addr.add]
          case c2 => intro u hu; simp at hu; subst hu; rfl
          case c3 => unfold maxLen; omega
          case c4 => omega
          case c5 => simp; omega
          intro v1 w1 hown hg _
          have HO1 : Hid (w1.ownsRow w.heap.size 3 1 v1 (memQ s (k + 1)).length ((memQ s (k + 1)).map fun k : Nat => Value.int .i64 (k : Int))) := by
            refine Lib.hid ?_
            rw [HS.out, if_pos (by first | trivial | rfl), List.length_append, List.map_append]
            exact hown
          have HB1 : Hid (Below w.heap.size w w1) := by
            refine Lib.hid ((HBk.out.alloc HBk.out.size _).grown hg (Nat.le_trans HBk.out.size (by simp)) ?_)
            intro g hg'
            exact (HO.out.lt g hg').1
          clear hown hg
          go_wp2_with fail
          go_roundw
          case rel => exact ⟨k + 1, by omega, by go_num, HO1, HB1.out⟩
          case measure => simp [intOf]; omega
      · obtain rfl : k = N := by omega
        obtain ⟨A', c', hv, _, _⟩ := own_form HO.out
        subst hv
        go_wp2_with fail
        go_ret
        exact ⟨_, rfl, by rw [HE.out]; exact HO.out, HBk.out⟩
theorem rmembers_of (s : Nat) (hs : s < 256) (n : Int) (w : World) :
    Calls Try.prog 12 #[.int .u8 (s : Int), .int .i64 n] w fun e w' =>
      ∃ A c, e = .returned (.slice A (memI s n).length c) ∧ LsI w' A (memI s n).length c (memI s n) ∧ Ext w w' :=
  (rmembers_own s hs n w).mono fun e w' ⟨v, he, hrow, hx⟩ => by
    obtain ⟨A, c, rfl, hL⟩ := lsI_own hrow
    exact ⟨A, c, by unfold memI; rw [List.length_map]; exact he, by unfold memI; rw [List.length_map]; exact hL, hx⟩
set_option maxHeartbeats 800000 in
theorem renough_of (s : Nat) (hs : s < 256) (n : Int) (w : World) :
    Calls Try.prog 14 #[.int .u8 (s : Int), .int .i64 n] w fun e w' => e = .returned (.bool (enoughQ s n)) ∧ Ext w w' := by
  have HMo := Lib.hid (fun V => rmost_of n V)
  have HMm := Lib.hid (fun V => rmembers_of s hs n V)
  obtain ⟨q, hq⟩ : ∃ q, enoughQ s n = q := ⟨_, rfl⟩
  rw [hq]
  have HQ : Hid (decide (0 < mostQ n ∧ mostQ n ≤ (memI s n).length) = q) := Lib.hid (by rw [← hq]; unfold enoughQ memI; rw [List.length_map])
  have hm4 : mostQ n ≤ 4 := by
    unfold mostQ
    split
    · decide
    · split
      · decide
      · split <;> decide
  generalize memI s n = M at *
  generalize mostQ n = m at *
  clear hq
  by_cases h0 : 0 < m
  · have h0' : (0 : Int) < (m : Int) := by omega
    go_enter Try.func14, Try.ntmps14
    go_wp2_with fail
    refine (HMo.out _).mono ?_
    rintro e w1 ⟨rfl, rfl⟩
    go_wp2_with fail
    refine (HMm.out _).mono ?_
    rintro e w2 ⟨A, c, rfl, _, hx⟩
    have HX := Lib.hid hx
    clear hx
    go_wp2_with fail
    refine (HMo.out _).mono ?_
    rintro e w3 ⟨rfl, rfl⟩
    go_wp2_with fail
    go_ret
    refine ⟨?_, HX.out⟩
    have e : decide (0 < m ∧ m ≤ M.length) = decide (m ≤ M.length) := by
      rw [decide_eq_decide]
      omega
    rw [← HQ.out, e]
    rfl
  · have h0' : (m : Int) = 0 := by omega
    go_enter Try.func14, Try.ntmps14
    go_wp2_with fail
    refine (HMo.out _).mono ?_
    rintro e w1 ⟨rfl, rfl⟩
    go_wp2_with fail
    go_ret
    refine ⟨?_, Ext.refl _⟩
    rw [← HQ.out, decide_eq_false fun h => h0 h.1]
    rfl
set_option maxHeartbeats 800000 in
theorem rsame_of {w : World} {A A2 : Option Addr} {n c c2 : Nat} {l : List Int} (h : LsI w A n c l) (h2 : LsI w A2 n c2 l) :
    Calls Try.prog 10 #[.slice A n c, .slice A2 n c2] w fun e w' => e = .returned (.bool true) ∧ Ext w w' := by
  have HL := Lib.hid h
  have HL2 := Lib.hid h2
  have hcap := h.cap
  have hmost := h.most
  have hcap2 := h2.cap
  have hmost2 := h2.most
  clear h h2
  go_enter Try.func10, Try.ntmps10
  go_wp2_with fail
  go_loopw [5] (fun v wr => ∃ k : Nat, k ≤ n ∧ v = .int .i64 (k : Int) ∧ Hid (Ext w wr)) (fun v _ => n - (intOf v).toNat)
  case atStart => exact ⟨0, by omega, rfl, Lib.hid (Ext.refl w)⟩
  case round =>
    obtain ⟨k, hk, rfl, HX⟩ := hrel
    by_cases hlt : k < n
    · obtain ⟨g, o, a, hA, hg, ha, hcell⟩ := HL.out.at_ hlt
      obtain ⟨g2, o2, a2, hA2, hg2, ha2, hcell2⟩ := HL2.out.at_ hlt
      subst hA
      subst hA2
      rw [ha] at ha2
      injection ha2 with ha2
      subst ha2
      have hc0 := hcell 0 _ rfl
      have hc2 := hcell2 0 _ rfl
      rw [Nat.mul_one, Nat.add_zero] at hc0 hc2
      have hxd : Ext w wr.drew := Below.drew HX.out
      have d0 : wr.drew.cell? ⟨g, o + k, none⟩ = some (.int .i64 a) := ext_of_cellQ hxd hc0
      have d2 : wr.drew.cell? ⟨g2, o2 + k, none⟩ = some (.int .i64 a) := ext_of_cellQ hxd hc2
      have HXd := Lib.hid hxd
      have hlt' : (k : Int) < (n : Int) := by omega
      clear hcell hcell2 ha hc0 hc2 hxd
      go_wp2_with fail
      go_region
      go_wp2_with fail
      go_roundw
      case rel => exact ⟨k + 1, by omega, by go_num, HXd⟩
      case measure => simp [intOf]; omega
    · obtain rfl : k = n := by omega
      go_wp2_with fail
      go_ret
      exact ⟨rfl, HX.out⟩
end
end Go.Proofs.Ytmpaocpgoihliaa

/-
  The contracts of quorum's Members and Enough.
-/
import Derived.Test.YtmnldkfkcfnkdaaQuIter
namespace Go.Proofs.Ytmnldkfkcfnkdaa
set_option maxRecDepth 100000
open Go Go.RowKit Go.Shelf
attribute [local go_sem] Oper.semAt_some

set_option maxRecDepth 100000 in
set_option maxHeartbeats 1600000 in
theorem members_own (s : Nat) (hs : s < 256) (n : Int) (w : World) :
    Calls Try.prog 25 #[.int .u8 (s : Int), .int .i64 n] w fun e w' =>
      ∃ v, e = .returned v ∧ w'.ownsRow w.heap.size 3 1 v (membersQ s n).length ((membersQ s n).map fun k : Nat => Value.int .i64 (k : Int)) ∧ Ext w w' := by
  obtain ⟨i0, hi, hz0', hz1', hz2'⟩ := info_parts int_infoQ
  have bO := Boxed.new w 51 (.slice none 0 0)
  obtain ⟨w1, hw1⟩ : ∃ w1, w.alloc (.cells #[.slice none 0 0] 51) = w1 := ⟨_, rfl⟩
  have hE1 : Ext w w1 := by rw [← hw1]; exact (Ext.refl w).alloc _
  have hs1 : w1.heap.size = w.heap.size + 1 := by rw [← hw1]; simp
  obtain ⟨w2, hw2⟩ : ∃ w2, (w1.alloc (.cells #[.int .u8 (s : Int)] 45)).alloc (.cells #[.int .i64 n] 3) = w2 := ⟨_, rfl⟩
  have hE2 : Ext w1 w2 := by rw [← hw2]; exact ((Ext.refl w1).alloc _).alloc _
  have hs2 : w2.heap.size = w1.heap.size + 2 := by rw [← hw2]; simp
  have hst := below_stops 8 (by omega) (w1.heap.size + 1) w1.heap.size (fun i => i = w.heap.size ∨ w2.heap.size ≤ i) s hs n w2 ⟨by omega, by omega⟩ (by rw [← hw2]; simp [go_sem]) (by rw [← hw2]; simp [go_sem])
  have HST := Lib.hid hst
  have HB := Lib.hid (below_of (s : Int) n w1)
  rw [hw2] at HB
  rw [hw1] at bO
  have bO2 : Boxed w2 w.heap.size 51 (.slice none 0 0) := (hE2.block _ (by omega)).trans bO
  have HE := Lib.hid (hE1.trans hE2)
  have HS2 := Lib.hid (show w2.heap.size = w.heap.size + 3 by omega)
  have h28 : w.heap.size ≤ w2.heap.size := by omega
  obtain ⟨M, hM⟩ : ∃ M, membersQ s n = M := ⟨_, rfl⟩
  have HML := Lib.hid (show M.length ≤ 7 by
    rw [← hM]; unfold membersQ
    split
    · simp
    · rename_i h
      refine Nat.le_trans (memQ_len s _) ?_
      rcases mostQ_cases h with rfl | rfl | rfl <;> decide)
  rw [hM] at HST ⊢
  clear hst bO hE1 hE2 hs1 hs2 hM
  refine calls_marksQ Try.func25 rfl ?_
  simp only [Try.ntmps25, List.size_toArray, List.length_cons, List.length_nil, Nat.reduceAdd, Nat.reduceSub, Array.replicate_succ, Array.replicate_zero, List.push_toArray, List.append_toArray, List.nil_append, List.cons_append]
  go_wp2_with fail
  refine HB.out.mono ?_
  rintro e w2' ⟨rfl, hw⟩
  have hw := hw.symm
  subst hw
  go_wp2_with fail
  refine (wpIn_wide (n := 9)).1 ?_
  refine wpIn_rangeFunc_ownG (F := Fence.wide) (n := 9) rfl (by omega) (gf := 39) (lb := #[.pointer (some ⟨w1.heap.size + 1, 0, none⟩), .pointer (some ⟨w1.heap.size, 0, none⟩)]) rfl trivial (enters_of Try.func39 (by kernel_rfl) rfl)
    HST.out (fun h k => h.trans k fun _ hi => .inl hi) (fun W l o o' hl ho _ _ => mod_putQ (w := w2) l o o' (fun k hk => .inr hk) hl ho) (Below.refl _ _) (fun _ => rfl)
    (fun pre W => (∃ v, Boxed W w.heap.size 51 v ∧ W.ownsRow w2.heap.size 3 1 v pre.length (pre.map fun x : Nat => Value.int .i64 (x : Int)) ∧ True) ∧ Below w.heap.size w W ∧ w2.heap.size ≤ W.heap.size)
    (fun _ _ _ => False)
    (OwnFrom.and (Own.from (holdsRow_own w2.heap.size w.heap.size 51 3 1 (fun pre : List Nat => pre.length) (fun pre : List Nat => pre.map fun x : Nat => Value.int .i64 (x : Int)) (fun _ _ => True)) _) (OwnFrom.and (ownFrom_below (Nat.le_refl _) h28) (fun _ _ _ _ hs hg _ => Nat.le_trans hs hg.size)))
    (fun _ _ _ _ _ hs _ _ => hs)
    ⟨⟨_, bO2, World.ownsRow_nil _ _ _ _, trivial⟩, HE.out, Nat.le_refl _⟩
    (fun x => { tmps := #[.int .u8 (s : Int), .int .i64 n, undef, undef, .slice none 0 0, .pointer (some ⟨w.heap.size, 0, none⟩), .int .i64 (x : Int), .int .u8 (s : Int), .int .i64 n, .func (.func 39) #[] #[.pointer (some ⟨w1.heap.size + 1, 0, none⟩), .pointer (some ⟨w1.heap.size, 0, none⟩)], .int .i64 (x : Int), undef, undef, undef, undef, undef], defers := [] }) ?assign ?body ?done ?stop
  case assign =>
    intro l x W K hK
    dsimp only [encQ]
    gi_wp2
    exact hK
  case body =>
    rintro l pre x W ⟨⟨v, hv, hrow, _⟩, hB, hsz⟩ hlt
    have hc := hv.cell
    have hlt7 := HML.out
    gi_wp2_with (gi_at_builtin; refine wpListIn_append_own _ rfl _ _ 51 rfl w2.heap.size 3 i0 (.int .i64 0) 1 8 Try.underlying51 hi hz0' hz1' hz2' rfl (by decide) _ _ _ rfl (hrow.alloc _) ⟨W.heap.size, 0, none⟩ 1 1 [.int .i64 (x : Int)] rfl rfl (cell_one_new _ _ _) (by simp [Value.oneCell']) (by unfold maxLen; omega) (by omega) (by simp; omega) ?_; intro v' w1 hown' hgrow _; obtain ⟨g', cap', rfl⟩ := ownsRow_succ hown'; obtain ⟨hv1, hv2, hr2, hk2, hb2, hm2⟩ := appendQ hv (by decide) hrow hsz h28 hown' hgrow; have hc1 := hv1.cell; have hf1 := hv1.frozen)
    exact ⟨hk2.from _, hm2, ⟨_, hv2, by simpa using hr2, trivial⟩, hB.trans hb2, Nat.le_trans hsz hm2.size⟩
  case done =>
    rintro D ys W hD hys ⟨⟨v, hv, hrow, _⟩, hB, _⟩ hK
    have hc := hv.cell
    subst hys
    have HRW := Lib.hid hrow
    have HBB := Lib.hid hB
    clear hrow hB
    go_wp2_with fail
    refine retM1Q rfl hK (v := v) ?_ ?_
    · simp [results, Try.results25, go_sem]
    · refine ⟨v, rfl, ?_, ext_putQ HBB.out (Nat.le_trans h28 hD) hK⟩
      have hr := ownsRow_putObj HRW.out (.deferred none) hK rfl
      refine ⟨hr.1, ?_⟩
      rcases hr.2 with h0 | ⟨g, cap, cur, h1, h2, h3⟩
      · exact .inl h0
      · exact .inr ⟨g, cap, cur, h1, Nat.le_trans h28 h2, h3⟩
  case stop =>
    rintro D c pre W _ _ h _
    exact h.elim
/-- The members as a list of numbers. -/
def memI (s : Nat) (n : Int) : List Int := (membersQ s n).map fun k : Nat => (k : Int)
theorem flat_int : ∀ l : List Nat, (l.map fun k : Nat => Value.int .i64 (k : Int)) = (l.map fun k : Nat => (k : Int)).flatMap intC
  | [] => rfl
  | a :: l => by rw [List.map_cons, List.map_cons, List.flatMap_cons, flat_int l]; rfl
theorem lsI_own {w : World} {b : Nat} {v : Value} {l : List Nat} (h : w.ownsRow b 3 1 v l.length (l.map fun k : Nat => Value.int .i64 (k : Int))) : ∃ A c, v = .slice A l.length c ∧ LsI w A l.length c (l.map fun k : Nat => (k : Int)) := by
  rw [flat_int] at h
  exact Ls.of_row (cells := intC) (fun _ => rfl) (by decide) (by simp) h
theorem members_of (s : Nat) (hs : s < 256) (n : Int) (w : World) :
    Calls Try.prog 25 #[.int .u8 (s : Int), .int .i64 n] w fun e w' =>
      ∃ A c, e = .returned (.slice A (memI s n).length c) ∧ LsI w' A (memI s n).length c (memI s n) ∧ Ext w w' :=
  (members_own s hs n w).mono fun e w' ⟨v, he, hrow, hx⟩ => by
    obtain ⟨A, c, rfl, hL⟩ := lsI_own hrow
    exact ⟨A, c, by unfold memI; rw [List.length_map]; exact he, by unfold memI; rw [List.length_map]; exact hL, hx⟩
theorem en_ret {b : Nat} {W : World} {a : Act} {D : Nat} {h : Bool} {R : Ending → World → Prop} (h4 : a.tmps.getD 4 undef = .pointer (some ⟨b, 0, none⟩))
    (hd : a.defers = [{ target := .collected D, args := #[] }]) (hK : W.heap[D]? = some (.deferred (some []))) (c1 : W.cell? ⟨b, 0, none⟩ = some (.bool h))
    (hR : R (.returned (.bool h)) (W.putObj D (.deferred none))) : bodyPostM Fence.wide 9 Try.prog Try.f24 R .ret a W := by
  refine retM1Q (v := .bool h) hd hK ?_ hR
  have k1 := cell_kept c1 (grownBy_putObj' _ D (.deferred none)) (fun r e => by cases e; exact ⟨_, hK, rfl⟩)
  have h4' : a.tmps[4]?.getD undef = .pointer (some ⟨b, 0, none⟩) := by simpa using h4
  simp [results, Try.results24, go_sem, h4', k1]
theorem ownF_blockQ {β : Type} (B g : Nat) (cs : β → Array Value) (t : TypeId) : OwnFrom B (fun (s : β) W => W.heap[g]? = some (.cells (cs s) t (0, 0))) := fun s W W' row hs hg hr => by
  refine (hg.block g (Array.getElem?_eq_some_iff.1 hs).1 (fun e => ?_)).trans hs
  obtain ⟨_, o, ho, hoc⟩ := hr g e.symm
  rw [hs] at ho
  injection ho with ho
  subst ho
  cases hoc
theorem heap_setQ {W : World} {D g k : Nat} {o : Obj} {x : Value} (hne : D ≠ g) (h : W.heap[D]? = some o) : (W.setCell ⟨g, k, none⟩ x).heap[D]? = some o :=
  heap_mod h (Mod.setCell (F := fun i => i = g) (Mod.refl (fun i => i = g) W) (p := ⟨g, k, none⟩) (.inl rfl) x) hne
set_option maxRecDepth 100000 in
set_option maxHeartbeats 1600000 in
theorem enough_of (s : Nat) (hs : s < 256) (n : Int) (w : World) :
    Calls Try.prog 24 #[.int .u8 (s : Int), .int .i64 n] w fun e w' => e = .returned (.bool (enoughQ s n)) ∧ Ext w w' := by
  have HMo := Lib.hid (fun V => most_of n V)
  obtain ⟨w1, hw1⟩ : ∃ w1, w.alloc (.cells #[.bool false] 4) = w1 := ⟨_, rfl⟩
  have hE1 : Ext w w1 := by rw [← hw1]; exact (Ext.refl w).alloc _
  have hs1 : w1.heap.size = w.heap.size + 1 := by rw [← hw1]; simp
  have r1 : w1.heap[w.heap.size]? = some (.cells #[.bool false] 4 (0, 0)) := by rw [← hw1]; exact heap_alloc_new w _
  have HQ := Lib.hid (show enoughQ s n = decide (0 < mostQ n ∧ mostQ n ≤ (membersQ s n).length) from rfl)
  have hm4 : mostQ n ≤ 4 := by
    unfold mostQ
    split
    · decide
    · split
      · decide
      · split <;> decide
  obtain ⟨m, hm⟩ : ∃ m, mostQ n = m := ⟨_, rfl⟩
  rw [hm] at HMo HQ hm4
  have HM0 := Lib.hid (show m = 0 → (membersQ s n).length = 0 by intro h; unfold membersQ; rw [if_pos (by omega)]; rfl)
  obtain ⟨w2, hw2⟩ : ∃ w2, w1.alloc (.cells #[.int .i64 (m : Int)] 3) = w2 := ⟨_, rfl⟩
  have hE2 : Ext w1 w2 := by rw [← hw2]; exact (Ext.refl w1).alloc _
  have hs2 : w2.heap.size = w1.heap.size + 1 := by rw [← hw2]; simp
  have r2 : w2.heap[w1.heap.size]? = some (.cells #[.int .i64 (m : Int)] 3 (0, 0)) := by rw [← hw2]; exact heap_alloc_new w1 _
  have r1 : w2.heap[w.heap.size]? = some (.cells #[.bool false] 4 (0, 0)) := (hE2.block _ (by omega)).trans r1
  obtain ⟨w3, hw3⟩ : ∃ w3, (w2.alloc (.cells #[.int .u8 (s : Int)] 45)).alloc (.cells #[.int .i64 n] 3) = w3 := ⟨_, rfl⟩
  have hE3 : Ext w2 w3 := by rw [← hw3]; exact ((Ext.refl w2).alloc _).alloc _
  have hs3 : w3.heap.size = w2.heap.size + 2 := by rw [← hw3]; simp
  have r1 := (hE3.block _ (Array.getElem?_eq_some_iff.1 r1).1).trans r1
  have r2 := (hE3.block _ (Array.getElem?_eq_some_iff.1 r2).1).trans r2
  have hst := below_stops 8 (by omega) (w2.heap.size + 1) w2.heap.size (fun i => (i = w.heap.size ∨ i = w1.heap.size) ∨ w3.heap.size ≤ i) s hs n w3 ⟨by omega, by omega⟩ (by rw [← hw3]; simp [go_sem]) (by rw [← hw3]; simp [go_sem])
  have HST := Lib.hid hst
  have HB := Lib.hid (below_of (s : Int) n w2)
  rw [hw3] at HB
  have HE := Lib.hid ((hE1.trans hE2).trans hE3)
  have HSZ := Lib.hid (And.intro hs1 (And.intro hs2 hs3))
  have h38 : w.heap.size ≤ w3.heap.size := by omega
  have hne : w.heap.size ≠ w1.heap.size := by omega
  have HR1 := Lib.hid r1
  have HR2 := Lib.hid r2
  have HW1 := Lib.hid hw1
  have HW2 := Lib.hid hw2
  generalize membersQ s n = M at *
  generalize enoughQ s n = q at *
  clear hst hE1 hE2 hE3 hs1 hs2 hs3 hm r1 r2 hw1 hw2 hw3
  refine calls_marksQ Try.func24 rfl ?_
  simp only [Try.ntmps24, List.size_toArray, List.length_cons, List.length_nil, Nat.reduceAdd, Nat.reduceSub, Array.replicate_succ, Array.replicate_zero, List.push_toArray, List.append_toArray, List.nil_append, List.cons_append]
  go_wp2_with fail
  rw [HW1.out]
  refine (HMo.out _).mono ?_
  rintro e w1' ⟨rfl, rfl⟩
  go_wp2_with fail
  rw [HW2.out]
  refine HB.out.mono ?_
  rintro e w3' ⟨rfl, hw⟩
  have hw := hw.symm
  subst hw
  go_wp2_with fail
  refine (wpIn_wide (n := 9)).1 ?_
  refine wpIn_rangeFunc_ownG (F := Fence.wide) (n := 9) rfl (by omega) (gf := 39) (lb := #[.pointer (some ⟨w2.heap.size + 1, 0, none⟩), .pointer (some ⟨w2.heap.size, 0, none⟩)]) rfl trivial (enters_of Try.func39 (by kernel_rfl) rfl)
    HST.out (fun h k => h.trans k fun _ hi => .inl hi) (fun W l o o' hl ho _ _ => mod_putQ (w := w3) l o o' (fun k hk => .inr hk) hl ho) (Below.refl _ _) (fun _ => rfl)
    (fun pre V => (V.heap[w.heap.size]? = some (.cells #[.bool false] 4 (0, 0)) ∧ V.heap[w1.heap.size]? = some (.cells #[.int .i64 ((m : Int) - (pre.length : Int))] 3 (0, 0))) ∧ (0 < m → pre.length < m) ∧ Below w.heap.size w V)
    (fun c pre V => V.heap[w.heap.size]? = some (.cells #[.bool true] 4 (0, 0)) ∧ (c = .ret ∧ 0 < m ∧ pre.length = m) ∧ Below w.heap.size w V)
    (OwnFrom.and (OwnFrom.and (ownF_blockQ _ _ (fun _ : List Nat => #[.bool false]) _) (ownF_blockQ _ _ (fun pre : List Nat => #[.int .i64 ((m : Int) - (pre.length : Int))]) _)) (OwnFrom.and (fun _ _ _ _ hs _ _ => hs) (ownFrom_below (Nat.le_refl _) h38)))
    (fun c => OwnFrom.and (ownF_blockQ _ _ (fun _ : List Nat => #[.bool true]) _) (OwnFrom.and (fun _ _ _ _ hs _ _ => hs) (ownFrom_below (Nat.le_refl _) h38)))
    ⟨⟨HR1.out, by simpa using HR2.out⟩, fun h => h, HE.out⟩
    (fun x => { tmps := #[.int .u8 (s : Int), .int .i64 n, undef, undef, .pointer (some ⟨w.heap.size, 0, none⟩), .pointer (some ⟨w1.heap.size, 0, none⟩), .int .i64 n, .int .i64 (m : Int), .int .u8 (s : Int), .int .i64 n, .func (.func 39) #[] #[.pointer (some ⟨w2.heap.size + 1, 0, none⟩), .pointer (some ⟨w2.heap.size, 0, none⟩)], .int .i64 (x : Int), undef, undef, undef, undef], defers := [] }) ?assign ?body ?done ?stop
  case assign =>
    intro l x W K hK
    dsimp only [encQ]
    gi_wp2
    simpa using hK
  case body =>
    rintro l pre x V ⟨⟨z1, z2⟩, hlm, hB⟩ hlt
    have hm0 : 0 < m := by
      rcases Nat.eq_zero_or_pos m with h | h
      · have := HM0.out h; omega
      · exact h
    have hlm := hlm hm0
    have hc := cell_of_row V _ 0 _ _ _ z2
    have hf := frozen_of_row V _ 0 _ _ z2
    have hl1 := (Array.getElem?_eq_some_iff.1 z2).1
    have hl0 := (Array.getElem?_eq_some_iff.1 z1).1
    have c0 := cell_of_row V _ 0 _ _ _ z1
    have f0 := frozen_of_row V _ 0 _ _ z1
    have Z1 := Lib.hid z1
    have Z2 := Lib.hid z2
    clear z1 z2
    by_cases he : pre.length + 1 = m
    · have e0 : (m : Int) - (pre.length : Int) - 1 = 0 := by omega
      gi_wp2
      refine ⟨((KeepsOthers.setCell _ _ _).trans (KeepsOthers.setCell _ _ _)).from _, row_setQ 0 (heap_setQ (k := 0) (x := .int .i64 0) hne Z1.out) (.bool true) rfl, ⟨rfl, hm0, by simpa using he⟩, ?_⟩
      exact (hB.setCell (p := ⟨w1.heap.size, 0, none⟩) (by have := HSZ.out.1; show w.heap.size ≤ w1.heap.size; omega) _).setCell (p := ⟨w.heap.size, 0, none⟩) (Nat.le_refl _) _
    · have e0 : ((m : Int) - (pre.length : Int) - 1 == 0) = false := by simp; omega
      gi_wp2
      refine ⟨(KeepsOthers.setCell _ _ _).from _, (Mod.refl _ _).setCell (p := ⟨w1.heap.size, 0, none⟩) (.inl (.inl (.inr rfl))) _, ⟨heap_setQ (k := 0) hne Z1.out, ?_⟩, fun _ => by simp; omega, ?_⟩
      · have e1 : ((m : Int) - ((pre ++ [x]).length : Int)) = (m : Int) - (pre.length : Int) - 1 := by simp; omega
        rw [e1]
        exact row_setQ 0 Z2.out _ rfl
      · exact hB.setCell (p := ⟨w1.heap.size, 0, none⟩) (by have := HSZ.out.1; show w.heap.size ≤ w1.heap.size; omega) _
  case done =>
    rintro D ys V hD hys ⟨⟨z1, z2⟩, hlm, hB⟩ hK
    have hq : q = false := by
      rw [HQ.out, decide_eq_false_iff_not]
      rintro ⟨h1, h2⟩
      have := hlm h1
      rw [hys] at this
      omega
    have hc := cell_of_row V _ 0 _ _ _ z1
    have hf := frozen_of_row V _ 0 _ _ z1
    have hl1 := (Array.getElem?_eq_some_iff.1 z1).1
    have HK := Lib.hid hK
    have HBB := Lib.hid hB
    have HZ := Lib.hid z1
    subst hq
    clear hys hlm hB hK z1 z2
    go_wp2_with fail
    have hDw : D ≠ w.heap.size := by
      have := HSZ.out
      omega
    refine en_ret rfl rfl (heap_setQ (k := 0) (x := .bool false) hDw HK.out) (cell_of_row _ _ 0 _ _ _ (row_setQ 0 HZ.out (.bool false) rfl)) ?_
    exact ⟨rfl, ext_putQ (HBB.out.setCell (p := ⟨w.heap.size, 0, none⟩) (Nat.le_refl _) _) (Nat.le_trans h38 hD) (heap_setQ (k := 0) (x := .bool false) hDw HK.out)⟩
  case stop =>
    rintro D c pre V hD hpre ⟨z1, ⟨rfl, hm0, hpm⟩, hB⟩ hK
    have hq : q = true := by
      rw [HQ.out, decide_eq_true_iff]
      exact ⟨hm0, by omega⟩
    subst hq
    gi_wp2
    refine en_ret rfl rfl hK (cell_of_row _ _ 0 _ _ _ z1) ?_
    exact ⟨rfl, ext_putQ hB (Nat.le_trans h38 hD) hK⟩
end Go.Proofs.Ytmnldkfkcfnkdaa

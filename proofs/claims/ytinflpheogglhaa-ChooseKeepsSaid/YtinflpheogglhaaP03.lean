/-
  The contract of ballot's Max.
-/
import Derived.Test.YtinflpheogglhaaP00
import Derived.Test.YtinflpheogglhaaP01
import Derived.Test.YtinflpheogglhaaP02
import Derived.Deep.DeepCutAuto
namespace Go.Proofs.Ytinflpheogglhaa
set_option maxRecDepth 100000
section
open Go Go.RowKit
theorem ext_of_cellB {w w' : World} {g i : Nat} {v : Value} (h : Ext w w') (hc : w.cell? ⟨g, i, none⟩ = some v) : w'.cell? ⟨g, i, none⟩ = some v := (Below.cell h (p := ⟨g, i, none⟩) (World.block_lt_of_cell? w _ hc)).trans hc
theorem ballot_info : (Try.prog.info? 40).map (fun i => (i.zero, i.size, i.bytes)) = some (some (.agg #[.int .i64 0, .int .i64 0]), 2, 16) := by kernel_rfl
theorem ballot_size (w : World) : (sizeOf (Try.prog.elem 80)).run Try.prog w = .ok 2 w := by
  have ht : Try.prog.elem 80 = 40 := by kernel_rfl
  obtain ⟨i0, hi, _, hz1, _⟩ := info_parts ballot_info
  rw [ht]
  simp [Go.sizeOf, typeInfo, hi, hz1]
theorem cutB (g o n cp : Nat) (l : Int) (q : Nat) (hq : l = (q : Int)) (hl : q ≤ n) (hc : n ≤ cp) : ∃ o', (0 < n - q → o' = o + q * 2) ∧ ∀ w, (Instr.slice 80 (.slice (some ⟨g, o, none⟩) n cp) (some (.int .i64 l)) none none).run Try.prog w = .ok (.slice (some ⟨g, o', none⟩) (n - q) (cp - q)) w := by
  subst hq
  refine ⟨if cp = q then o else o + q * 2, fun h => by rw [if_neg (by omega)], fun w => ?_⟩
  have ht : Try.prog.elem 80 = 40 := by kernel_rfl
  rw [run_slice_l w 80 (some ⟨g, o, none⟩) n cp (by rw [ht]; exact Try.underlying80) .i64 (q : Int) (by omega) (by omega), ballot_size]
  simp only [Result.andThen, sliced, Int.toNat_natCast]
  split <;> simp [Addr.add]
theorem Ls.dropB {w : World} {B g o o' n c q : Nat} {l : List Bal} (h : Ls Bal.cells 2 w B (some ⟨g, o, none⟩) n c l) (hq : q ≤ n) (ho : 0 < n - q → o' = o + q * 2) : Ls Bal.cells 2 w B (some ⟨g, o', none⟩) (n - q) (c - q) (l.drop q) := by
  have hc := h.cap
  have hm := h.most
  refine ⟨by rw [List.length_drop, h.len], by omega, by omega, fun hn => ?_, fun e => by cases e⟩
  obtain ⟨g', o1, e, hg, hcell⟩ := h.rd (by omega)
  injection e with e
  injection e with e1 e2
  subst e1 e2
  refine ⟨g, o', rfl, hg, fun j a ha k v hv => ?_⟩
  rw [List.getElem?_drop] at ha
  rw [ho hn, show o + q * 2 + (j * 2 + k) = o + ((q + j) * 2 + k) by omega]
  exact hcell _ a ha k v hv
theorem Ls.moreB {α : Type} {cells : α → List Value} {N : Nat} {w : World} {B B' : Nat} {A : Option Addr} {n c : Nat} {l : List α} (h : Ls cells N w B A n c l) (hB : B ≤ B') : Ls cells N w B' A n c l :=
  ⟨h.len, h.cap, h.most, fun hn => by
    obtain ⟨g, o, e, hg, hc⟩ := h.rd hn
    exact ⟨g, o, e, by omega, hc⟩, h.nil_⟩
theorem keep_rowB {w w' : World} {b : Nat} {o : Obj} (k : Ext w w') (h : w.heap[b]? = some o) : w'.heap[b]? = some o := (k.block b (Array.getElem?_eq_some_iff.1 h).1).trans h
theorem row_setB {w : World} {g t : Nat} {fr : Nat × Nat} {cs cs' : Array Value} (i : Nat) (h : w.heap[g]? = some (.cells cs t fr)) (x : Value) (e : cs.setIfInBounds i x = cs') : (w.setCell ⟨g, i, none⟩ x).heap[g]? = some (.cells cs' t fr) := by
  subst e
  rw [setCell_eq_setRow w g i cs t fr x h]
  exact setRow_heap w g _ _ _ _ h
theorem bal_store {w : World} {b : Nat} {x y : Int} {t : TypeId} (x' y' : Int) (h : w.heap[b]? = some (.cells #[.int .i64 x, .int .i64 y] t (0, 0))) : ((w.setCell ⟨b, 0, none⟩ (.int .i64 x')).setCell ⟨b, 1, none⟩ (.int .i64 y')).heap[b]? = some (.cells #[.int .i64 x', .int .i64 y'] t (0, 0)) := row_setB 1 (row_setB 0 h (.int .i64 x') rfl) (.int .i64 y') rfl
theorem bal_stored {w : World} {b : Nat} (x' y' : Int) {b' : Nat} {o : Obj} (hb : b' ≠ b) (h' : w.heap[b']? = some o) : ((w.setCell ⟨b, 0, none⟩ (.int .i64 x')).setCell ⟨b, 1, none⟩ (.int .i64 y')).heap[b']? = some o := by
  have m1 : Mod (fun k => k = b) w (w.setCell ⟨b, 0, none⟩ (.int .i64 x')) := Mod.setCell (F := fun k => k = b) (Mod.refl (fun k => k = b) w) (p := ⟨b, 0, none⟩) (.inl rfl) _
  have m2 : Mod (fun k => k = b) (w.setCell ⟨b, 0, none⟩ (.int .i64 x')) ((w.setCell ⟨b, 0, none⟩ (.int .i64 x')).setCell ⟨b, 1, none⟩ (.int .i64 y')) := Mod.setCell (F := fun k => k = b) (Mod.refl (fun k => k = b) _) (p := ⟨b, 1, none⟩) (.inl rfl) _
  exact heap_mod (heap_mod h' m1 hb) m2 hb
def lenOf : Value → Nat
  | .slice _ n _ => n
  | _ => 0
theorem bal_row {w : World} {b : Nat} {x y : Int} {t : TypeId} (h : w.heap[b]? = some (.cells #[.int .i64 x, .int .i64 y] t (0, 0))) : w.cell? ⟨b, 0, none⟩ = some (.int .i64 x) ∧ w.cell? ⟨b, 1, none⟩ = some (.int .i64 y) ∧ w.frozen? ⟨b, 0, none⟩ = false ∧ w.frozen? ⟨b, 1, none⟩ = false :=
  ⟨cell_of_row w b 0 _ _ _ h, cell_of_row w b 1 _ _ _ h, frozen_of_row w b 0 _ _ h, frozen_of_row w b 1 _ _ h⟩
set_option maxHeartbeats 600000 in
theorem maxB_of (A : Option Addr) (n c : Nat) (l : List Bal) (w : World) (h : Ls Bal.cells 2 w w.heap.size A n c l) :
    Calls Try.prog 31 #[.slice A n c] w fun e w' => e = .returned (.agg #[.int .i64 (maxB l).x, .int .i64 (maxB l).y]) ∧ Ext w w' := by
  have hcap := h.cap
  have hmost := h.most
  have H := Lib.hid h
  have HLN := Lib.hid h.len
  clear h
  by_cases hn : n = 0
  · subst hn
    have hl : l = [] := List.length_eq_zero_iff.1 HLN.out
    subst hl
    go_enter Try.func31, Try.ntmps31
    go_wp2_with fail
    refine bodyPost_ret (v := .agg #[.int .i64 0, .int .i64 0]) (by simp [results, Try.results31, go_sem, (bal_one w 0 0 40).1, (bal_one w 0 0 40).2]) rfl ?_
    exact ⟨rfl, (Ext.refl w).alloc _⟩
  · obtain ⟨g, o, b, rfl, hb, c0, c1⟩ := Ls.bal H.out (show 0 < n by omega)
    obtain ⟨bx, by_⟩ := b
    dsimp only at c0 c1
    have hn1 : 0 < n := by omega
    have hn0 : ((n : Int) == 0) = false := by simpa using hn
    have HC := Lib.hid (And.intro c0 c1)
    obtain ⟨o1, ho1, hcut⟩ := cutB g o n c 1 1 rfl hn1 hcap
    have HO1 := Lib.hid ho1
    clear hn ho1
    go_enter Try.func31, Try.ntmps31
    go_wp2_with fail
    go_region_held3 (fun w' => w'.cell? ⟨g, o, none⟩ = some (.int .i64 bx) ∧ w'.cell? ⟨g, o + 1, none⟩ = some (.int .i64 by_))
      (exact ⟨ext_of_cellB (by repeat (first | exact Ext.refl _ | refine Ext.drew ?_ | refine Ext.alloc ?_ _ | refine Ext.setCell ?_ (by simp) _)) HC.out.1, ext_of_cellB (by repeat (first | exact Ext.refl _ | refine Ext.drew ?_ | refine Ext.alloc ?_ _ | refine Ext.setCell ?_ (by simp) _)) HC.out.2⟩)
      (fail)
    have hr3 : (((w.alloc (Obj.cells #[Value.int .i64 0, Value.int .i64 0] 40)).alloc (Obj.cells #[Value.int .i64 bx, Value.int .i64 by_] 40)).drew).heap[w.heap.size + 1]? = some (.cells #[.int .i64 bx, .int .i64 by_] 40 (0, 0)) := by
      have := heap_alloc_new (w.alloc (Obj.cells #[Value.int .i64 0, Value.int .i64 0] 40)) (Obj.cells #[Value.int .i64 bx, Value.int .i64 by_] 40)
      have e : (w.alloc (Obj.cells #[Value.int .i64 0, Value.int .i64 0] 40)).heap.size = w.heap.size + 1 := by simp
      rw [e] at this
      exact (((Ext.refl ((w.alloc (Obj.cells #[Value.int .i64 0, Value.int .i64 0] 40)).alloc (Obj.cells #[Value.int .i64 bx, Value.int .i64 by_] 40))).drew).block _ (by simp)).trans this
    have hr2 : (((w.alloc (Obj.cells #[Value.int .i64 0, Value.int .i64 0] 40)).alloc (Obj.cells #[Value.int .i64 bx, Value.int .i64 by_] 40)).drew).heap[w.heap.size]? = some (.cells #[.int .i64 0, .int .i64 0] 40 (0, 0)) := by
      have h1 := heap_alloc_new w (Obj.cells #[Value.int .i64 0, Value.int .i64 0] 40)
      have h2 := ((Ext.refl (w.alloc (Obj.cells #[Value.int .i64 0, Value.int .i64 0] 40))).alloc (Obj.cells #[Value.int .i64 bx, Value.int .i64 by_] 40)).drew
      exact (h2.block _ (by simp)).trans h1
    have hx0 : Ext w (((w.alloc (Obj.cells #[Value.int .i64 0, Value.int .i64 0] 40)).alloc (Obj.cells #[Value.int .i64 bx, Value.int .i64 by_] 40)).drew) := (((Ext.refl w).alloc _).alloc _).drew
    generalize (((w.alloc (Obj.cells #[Value.int .i64 0, Value.int .i64 0] 40)).alloc (Obj.cells #[Value.int .i64 bx, Value.int .i64 by_] 40)).drew) = W0 at *
    obtain ⟨b2, hb2⟩ : ∃ b2, w.heap.size = b2 := ⟨_, rfl⟩
    rw [hb2] at hr2 hr3 ⊢
    have HR3 := Lib.hid hr3
    have HR2 := Lib.hid hr2
    have HX0 := Lib.hid hx0
    have HB2 := Lib.hid hb2
    have HMX : Hid (maxB l = upB ⟨bx, by_⟩ (l.drop 1)) := Lib.hid (by
      cases l with
      | nil => cases hb
      | cons a t =>
        injection hb with hb
        subst hb
        rfl)
    clear hr3 hr2 hx0 hb2 hb c0 c1 hcut HC
    go_wp2_with fail
    go_loopw [4] (fun v wr => ∃ (k o' : Nat) (x y : Int), 1 ≤ k ∧ k ≤ n ∧ v = .slice (some ⟨g, o', none⟩) (n - k) (c - k) ∧ Hid (0 < n - k → o' = o + k * 2) ∧ Hid (maxB l = upB ⟨x, y⟩ (l.drop k)) ∧ Hid (wr.heap[b2 + 1]? = some (.cells #[.int .i64 x, .int .i64 y] 40 (0, 0))) ∧ Hid (wr.heap[b2]? = some (.cells #[.int .i64 0, .int .i64 0] 40 (0, 0))) ∧ Hid (Ext w wr)) (fun v _ => lenOf v)
    case atStart => exact ⟨1, o1, bx, by_, Nat.le_refl _, hn1, rfl, by simpa using HO1, HMX, HR3, HR2, HX0⟩
    case round =>
      obtain ⟨k, o', x, y, hk1, hkn, rfl, HO, HM, HR3, HR2, HX⟩ := hrel
      obtain ⟨e0, e1, e2, e3⟩ := bal_row HR3.out
      have hsz := HX.out.size
      have HLS : Hid (Ls Bal.cells 2 wr wr.heap.size (some ⟨g, o', none⟩) (n - k) (c - k) (l.drop k)) := Lib.hid (((H.out.dropB hkn HO.out).below HX.out).moreB hsz)
      go_wp2_with fail
      refine (indexB_of x y _ _ _ _ _ HLS.out).mono ?_
      rintro e w1 ⟨z, rfl, hz, hx⟩
      have HR3 := Lib.hid (keep_rowB hx HR3.out)
      have HR2 := Lib.hid (keep_rowB hx HR2.out)
      have HX := Lib.hid (HX.out.trans hx)
      clear e0 e1 e2 e3
      obtain ⟨e0, e1, e2, e3⟩ := bal_row HR3.out
      obtain ⟨d0, d1, d2, d3⟩ := bal_row HR2.out
      rcases hz with ⟨rfl, hz⟩ | ⟨i, a, rfl, ha, hl, hz⟩
      · have HE : Hid (maxB l = ⟨x, y⟩) := Lib.hid (HM.out.trans (upB_none hz))
        clear hz hx
        go_wp2_with fail
        obtain ⟨f0, f1, _, _⟩ := bal_row (bal_store x y HR2.out)
        refine bodyPost_ret (v := .agg #[.int .i64 x, .int .i64 y]) (by simp [results, Try.results31, go_sem, f0, f1]) rfl ?_
        have hb := HB2.out
        exact ⟨by rw [HE.out], (HX.out.setCell (p := ⟨b2, 0, none⟩) (by rw [hb]; exact Nat.le_refl _) _).setCell (p := ⟨b2, 1, none⟩) (by rw [hb]; exact Nat.le_refl _) _⟩
      · have HE : Hid (maxB l = upB a (l.drop (k + i + 1))) := Lib.hid (by rw [HM.out, upB_take hz ha hl, List.drop_drop, Nat.add_assoc])
        have hkl : k + i < n := by
          have := (List.getElem?_eq_some_iff.1 ha).1
          rw [List.length_drop, HLN.out] at this
          omega
        have ho' : o' = o + k * 2 := HO.out (by omega)
        have ha' : l[k + i]? = some a := by rw [List.getElem?_drop] at ha; exact ha
        obtain ⟨g', o2, a', eA, ha2, c0, c1⟩ := Ls.bal (H.out.below HX.out) hkl
        injection eA with eA
        injection eA with eA1 eA2
        subst eA1 eA2
        rw [ha'] at ha2
        injection ha2 with ha2
        subst ha2
        obtain ⟨ax, ay⟩ := a
        dsimp only at c0 c1
        obtain ⟨q, hq⟩ : ∃ q, o + (k + i) * 2 = q := ⟨_, rfl⟩
        have hqi : o' + i * 2 = q := by omega
        rw [hq] at c0 c1
        have d0' : w1.cell? ⟨g, o' + i * 2, none⟩ = some (.int .i64 ax) := by rw [hqi]; exact c0
        have d1' : w1.cell? ⟨g, o' + i * 2 + 1, none⟩ = some (.int .i64 ay) := by rw [hqi]; exact c1
        obtain ⟨o3, ho3, hcut⟩ := cutB g o' (n - k) (c - k) ((i : Int) + 1) (i + 1) (by omega) (by omega) (by omega)
        have HO3 : Hid (0 < n - (k + i + 1) → o3 = o + (k + i + 1) * 2) := Lib.hid (fun h => by rw [ho3 (by omega)]; omega)
        have hin : i < n - k := by omega
        have hqq := hq
        clear hz hx ha hl ha' hq hqi c0 c1 ho' ho3 hqq d0 d1 d2 d3
        go_wp2_with fail
        go_region
        have hb := HB2.out
        have HR3n := Lib.hid (keep_rowB ((Ext.refl _).drew) (bal_store ax ay HR3.out))
        have HR2n := Lib.hid (keep_rowB ((Ext.refl _).drew) (bal_stored ax ay (show b2 ≠ b2 + 1 by omega) HR2.out))
        have HXn := Lib.hid ((HX.out.setCell (p := ⟨b2 + 1, 0, none⟩) (by show w.heap.size ≤ b2 + 1; omega) (.int .i64 ax)).setCell (p := ⟨b2 + 1, 1, none⟩) (by show w.heap.size ≤ b2 + 1; omega) (.int .i64 ay)).drew
        generalize ((w1.setCell ⟨b2 + 1, 0, none⟩ (Value.int .i64 ax)).setCell ⟨b2 + 1, 1, none⟩ (Value.int .i64 ay)).drew = W2 at *
        clear d0' d1' e0 e1 e2 e3 hb
        go_wp2_with fail
        go_roundw
        case rel => exact ⟨k + i + 1, o3, ax, ay, by omega, by omega, by rw [show n - k - (i + 1) = n - (k + i + 1) by omega, show c - k - (i + 1) = c - (k + i + 1) by omega], HO3, HE, HR3n, HR2n, HXn⟩
        case measure => simp [lenOf]; omega
end
section
open Go Go.RowKit
def PredR (f : Nat) (p : Rpt → Bool) : Prop := ∀ (r : Rpt) (W : World), Calls Try.prog f #[rA r] W fun e w' => e = .returned (.bool (p r)) ∧ Ext W w'
theorem st_is0 (a : Nat) : ((a : Int) == 0) = decide (a = 0) := by rw [Bool.eq_iff_iff]; simp
theorem st_is2 (a : Nat) : ((a : Int) == 2) = decide (a = 2) := by rw [Bool.eq_iff_iff]; simp; omega
theorem st_is3 (a : Nat) : ((a : Int) == 3) = decide (a = 3) := by rw [Bool.eq_iff_iff]; simp; omega
theorem st_is4 (a : Nat) : ((a : Int) == 4) = decide (a = 4) := by rw [Bool.eq_iff_iff]; simp; omega
theorem ext_box {w : World} (r : Rpt) : Ext w (w.alloc (.cells (rptC r).toArray 54)) := (Ext.refl w).alloc _
set_option maxHeartbeats 600000 in
theorem cinv_of : PredR 21 fun r => decide (4 < r.st) := by
  intro r W
  have HX := Lib.hid (ext_box (w := W) r)
  go_enter Try.func21, Try.ntmps21
  go_wp2
  go_ret
  exact ⟨by simp; omega, HX.out⟩
set_option maxHeartbeats 600000 in
theorem cnone_of : PredR 23 fun r => decide (r.st = 0) := by
  intro r W
  have HX := Lib.hid (ext_box (w := W) r)
  go_enter Try.func23, Try.ntmps23
  go_wp2
  go_ret
  exact ⟨by simp [st_is0], HX.out⟩
set_option maxHeartbeats 600000 in
theorem chas_of : PredR 40 hasR := by
  rintro ⟨ix, st, x, y, e⟩ W
  have HX := Lib.hid (ext_box (w := W) ⟨ix, st, x, y, e⟩)
  by_cases h2 : st = 2
  · subst h2
    go_enter Try.func40, Try.ntmps40
    go_wp2
    go_ret
    exact ⟨by simp [hasR], HX.out⟩
  · have hd : ((st : Int) == 2) = false := by rw [st_is2]; exact decide_eq_false h2
    have HD := Lib.hid h2
    clear h2
    go_enter Try.func40, Try.ntmps40
    go_wp2
    go_ret
    exact ⟨by simp [hasR, HD.out, st_is3], HX.out⟩
set_option maxHeartbeats 600000 in
theorem cunk_of : PredR 39 unkR := by
  rintro ⟨ix, st, x, y, e⟩ W
  have HX := Lib.hid (ext_box (w := W) ⟨ix, st, x, y, e⟩)
  have HC := Lib.hid (fun V => cnone_of ⟨ix, st, x, y, e⟩ V)
  by_cases h2 : st = 0
  · subst h2
    go_enter Try.func39, Try.ntmps39
    go_wp2_with fail
    refine (HC.out _).mono ?_
    rintro _ w1 ⟨rfl, hx⟩
    have HX := Lib.hid (HX.out.trans hx)
    clear hx
    go_wp2
    go_ret
    exact ⟨by simp [unkR], HX.out⟩
  · have hc : (W.alloc (.cells (rptC ⟨ix, st, x, y, e⟩).toArray 54)).cell? ⟨W.heap.size, 1, none⟩ = some (.int .u8 (st : Int)) := cell_of_row _ W.heap.size 1 _ _ _ (heap_alloc_new W _)
    have HCC := Lib.hid hc
    have HD := Lib.hid h2
    have hd : decide (st = 0) = false := decide_eq_false h2
    clear h2 hc
    go_enter Try.func39, Try.ntmps39
    go_wp2_with fail
    refine (HC.out _).mono ?_
    rintro _ w1 ⟨rfl, hx⟩
    have HX := Lib.hid (HX.out.trans hx)
    have hc := ext_of_cellB hx HCC.out
    clear hx
    go_wp2
    go_ret
    exact ⟨by simp [unkR, HD.out, st_is4], HX.out⟩
theorem Ls.rpt {w : World} {B n c : Nat} {A : Option Addr} {l : List Rpt} (h : Ls rptC 11 w B A n c l) {j : Nat} (hj : j < n) : ∃ g o r, A = some ⟨g, o, none⟩ ∧ g < B ∧ l[j]? = some r ∧ RC w g (o + j * 11) r := by
  obtain ⟨g, o, r, h1, h0, h2, h3⟩ := h.at_ hj
  exact ⟨g, o, r, h1, h0, h2, RC.of fun k v hv => by rw [Nat.add_assoc]; exact h3 k v hv⟩
theorem any_noR {p : Rpt → Bool} {l : List Rpt} (h : ∀ (k : Nat) (a : Rpt), l[k]? = some a → p a = false) : l.any p = false := by
  rw [List.any_eq_false]
  intro x hx
  obtain ⟨k, hk, e⟩ := List.getElem_of_mem hx
  rw [h k x (by rw [← e]; exact List.getElem?_eq_getElem hk)]
  decide
theorem any_yesR {p : Rpt → Bool} {l : List Rpt} {k : Nat} {a : Rpt} (h : l[k]? = some a) (hp : p a = true) : l.any p = true := List.any_eq_true.2 ⟨a, List.mem_of_getElem? h, hp⟩
set_option maxHeartbeats 1000000 in
theorem indexR_of {f : Nat} {p : Rpt → Bool} (hf : f = 21 ∨ f = 23) (hp : PredR f p) (A : Option Addr) (n c : Nat) (l : List Rpt) (w : World) (h : Ls rptC 11 w w.heap.size A n c l) :
    Calls Try.prog 37 #[.slice A n c, .func (.func f) #[] #[]] w fun e w' => ∃ z, e = .returned (.int .i64 z) ∧ decide (0 ≤ z) = l.any p ∧ Ext w w' := by
  have hcap := h.cap
  have hmost := h.most
  have H := Lib.hid h
  have HLN := Lib.hid h.len
  have HP := Lib.hid hp
  clear h hp
  rcases hf with rfl | rfl
  all_goals
    go_enter Try.func37, Try.ntmps37
    go_wp2_with fail
    go_loopw [8] (fun i wr => ∃ j : Nat, j ≤ n ∧ i = .int .i64 (j : Int) ∧ Hid (∀ (k : Nat) (a : Rpt), k < j → l[k]? = some a → p a = false) ∧ Hid (Ext w wr)) (fun i _ => n - (intOf i).toNat)
    case atStart => exact ⟨0, Nat.zero_le _, rfl, Lib.hid (fun k a hk => absurd hk (Nat.not_lt_zero _)), Lib.hid (Ext.refl _)⟩
    case round =>
      obtain ⟨j, hj, rfl, HN, HX⟩ := hrel
      by_cases hlt : j < n
      · obtain ⟨g, o, r, rfl, _, hb, hrc⟩ := Ls.rpt (H.out.below HX.out) hlt
        have HB := Lib.hid hb
        have HC := Lib.hid (HP.out r wr)
        obtain ⟨q, hq⟩ : ∃ q, p r = q := ⟨_, rfl⟩
        rw [hq] at HC
        have HR := Lib.hid hq
        obtain ⟨c0, c1, c2, c3, c4, c5, c6, c7, c8, c9, c10⟩ := hrc
        clear hb hq
        cases q with
        | true =>
          go_wp2_with fail
          refine HC.out.mono ?_
          rintro e w1 ⟨rfl, hx⟩
          have HX := Lib.hid (HX.out.trans hx)
          clear hx c0 c1 c2 c3 c4 c5 c6 c7 c8 c9 c10 HC
          go_wp2_with fail
          go_ret
          exact ⟨_, rfl, by rw [any_yesR HB.out HR.out]; exact decide_eq_true (Int.natCast_nonneg _), HX.out⟩
        | false =>
          go_wp2_with fail
          refine HC.out.mono ?_
          rintro e w1 ⟨rfl, hx⟩
          have HX := Lib.hid (HX.out.trans hx)
          clear hx c0 c1 c2 c3 c4 c5 c6 c7 c8 c9 c10 HC
          go_wp2_with fail
          go_roundw
          case rel =>
            refine ⟨j + 1, by omega, by go_num, Lib.hid (fun k a hk ha => ?_), HX⟩
            by_cases hkj : k = j
            · subst hkj
              rw [HB.out] at ha
              injection ha with ha
              rw [← ha]
              exact HR.out
            · exact HN.out k a (by omega) ha
          case measure => simp [intOf]; omega
      · have hjn : j = n := by omega
        subst hjn
        go_wp2_with fail
        go_ret
        exact ⟨_, rfl, by rw [any_noR fun k a ha => HN.out k a (by have := (List.getElem?_eq_some_iff.1 ha).1; rw [HLN.out] at this; exact this) ha]; rfl, HX.out⟩
set_option maxHeartbeats 1000000 in
theorem containsR_of {f : Nat} {p : Rpt → Bool} (hf : f = 21 ∨ f = 23) (hp : PredR f p) (A : Option Addr) (n c : Nat) (l : List Rpt) (w : World) (h : Ls rptC 11 w w.heap.size A n c l) :
    Calls Try.prog 20 #[.slice A n c, .func (.func f) #[] #[]] w fun e w' => e = .returned (.bool (l.any p)) ∧ Ext w w' := by
  have HC := Lib.hid (indexR_of hf hp A n c l w h)
  clear h hp hf
  go_enter Try.func20, Try.ntmps20
  go_wp2_with fail
  refine HC.out.mono ?_
  rintro _ w1 ⟨z, rfl, hz, hx⟩
  go_wp2_with fail
  go_ret
  exact ⟨by rw [← hz]; simp, hx⟩
end
section
open Go Go.RowKit
theorem Bal.one2 (a : Bal) : ∀ u ∈ Bal.cells a, u.oneCell' = true := by
  intro u hu
  simp only [Bal.cells, List.mem_cons, List.not_mem_nil, or_false] at hu
  rcases hu with rfl | rfl <;> rfl
theorem report_info : (Try.prog.info? 54).map (fun i => (i.zero, i.size, i.bytes)) = some (some (.agg #[.int .i64 0, .int .u8 0, .int .i64 0, .int .i64 0, .int .u8 0, .int .i64 0, .int .i64 0, .int .u8 0, .string ByteArray.empty, .string ByteArray.empty, .string ByteArray.empty]), 11, 112) := by kernel_rfl
theorem cells_newR (w : World) (t : TypeId) (vs : List Value) : ∀ j u, vs[j]? = some u → (w.alloc (.cells vs.toArray t)).cell? ((⟨w.heap.size, 0, none⟩ : Addr).add j) = some u := by
  intro j u hj
  have h := cell_of_row (w.alloc (.cells vs.toArray t)) w.heap.size j vs.toArray t (0, 0) (heap_alloc_new w _)
  rw [List.getElem?_toArray, hj] at h
  have e : ((⟨w.heap.size, 0, none⟩ : Addr).add j) = ⟨w.heap.size, j, none⟩ := by
    simp [Addr.add]
    exact fun e => e.symm
  rw [e]
  exact h
theorem take_oneR {α : Type} {l : List α} {k : Nat} {a : α} (h : l[k]? = some a) : l.take (k + 1) = l.take k ++ [a] := by
  obtain ⟨hk, e⟩ := List.getElem?_eq_some_iff.1 h
  rw [List.take_add_one, h]
  rfl
set_option maxHeartbeats 1600000 in
theorem only_of {f : Nat} {p : Rpt → Bool} (hf : f = 39 ∨ f = 40) (hp : PredR f p) (A : Option Addr) (n c : Nat) (l : List Rpt) (w : World) (h : Ls rptC 11 w w.heap.size A n c l) (hn : n ≤ 20) :
    Calls Try.prog 38 #[.slice A n c, .func (.func f) #[] #[]] w fun e w' => ∃ v, e = .returned v ∧ w'.ownsRow w.heap.size 54 11 v (l.filter p).length ((l.filter p).flatMap rptC) ∧ Ext w w' := by
  have hcap := h.cap
  have hmost := h.most
  obtain ⟨i0, hi, hz0, hz1, hz2⟩ := info_parts report_info
  have H := Lib.hid h
  have HLN := Lib.hid h.len
  have HP := Lib.hid hp
  clear h hp
  rcases hf with rfl | rfl
  all_goals
    go_enter Try.func38, Try.ntmps38
    go_wp2_with fail
    go_loopw [5, 10] (fun v i wr => ∃ j : Nat, j ≤ n ∧ i = .int .i64 (j : Int) ∧ Hid (wr.ownsRow w.heap.size 54 11 v ((l.take j).filter p).length (((l.take j).filter p).flatMap rptC) ∧ Ext w wr)) (fun _ i _ => n - (intOf i).toNat)
    case atStart => exact ⟨0, Nat.zero_le _, rfl, Lib.hid ⟨World.ownsRow_nil _ _ _ _, Ext.refl _⟩⟩
    case round =>
      obtain ⟨j, hj, rfl, HG⟩ := hrel
      by_cases hlt : j < n
      · obtain ⟨g, o, r, rfl, hgs, hb, hrc⟩ := Ls.rpt (H.out.below HG.out.2) hlt
        have HTK := Lib.hid (take_oneR hb)
        have hml : ((l.take j).filter p).length ≤ 20 := Nat.le_trans (List.length_filter_le _ _) (by rw [List.length_take]; omega)
        have HPR := Lib.hid (fun V => HP.out r V)
        obtain ⟨q, hq⟩ : ∃ q, p r = q := ⟨_, rfl⟩
        rw [hq] at HPR
        have HR := Lib.hid hq
        obtain ⟨c0, c1, c2, c3, c4, c5, c6, c7, c8, c9, c10⟩ := hrc
        clear hb hq
        go_upto_region 5 with (fail)
        clear c0 c1 c2 c3 c4 c5 c6 c7 c8 c9 c10
        have hq2 : (wr.alloc (.cells #[.int .i64 r.ix, .int .u8 (r.st : Int), .int .i64 r.x, .int .i64 r.y, .int .u8 (r.e.k : Int), .int .i64 r.e.cl, .int .i64 r.e.sq, .int .u8 (r.e.ok : Int), .string r.e.key, .string r.e.old, .string r.e.val] 54)).heap[wr.heap.size]? = some (.cells (rptC r).toArray 54 (0, 0)) := heap_alloc_new wr _
        have hx2 := (Ext.refl wr).alloc (.cells #[.int .i64 r.ix, .int .u8 (r.st : Int), .int .i64 r.x, .int .i64 r.y, .int .u8 (r.e.k : Int), .int .i64 r.e.cl, .int .i64 r.e.sq, .int .u8 (r.e.ok : Int), .string r.e.key, .string r.e.old, .string r.e.val] 54)
        have hz2' : (wr.alloc (.cells #[.int .i64 r.ix, .int .u8 (r.st : Int), .int .i64 r.x, .int .i64 r.y, .int .u8 (r.e.k : Int), .int .i64 r.e.cl, .int .i64 r.e.sq, .int .u8 (r.e.ok : Int), .string r.e.key, .string r.e.old, .string r.e.val] 54)).heap.size = wr.heap.size + 1 := by simp
        generalize (wr.alloc (.cells #[.int .i64 r.ix, .int .u8 (r.st : Int), .int .i64 r.x, .int .i64 r.y, .int .u8 (r.e.k : Int), .int .i64 r.e.cl, .int .i64 r.e.sq, .int .u8 (r.e.ok : Int), .string r.e.key, .string r.e.old, .string r.e.val] 54)) = V at *
        have HG2 := Lib.hid (And.intro (ownsRow_extL HG.out.1 hx2) (HG.out.2.trans hx2))
        have HQ := Lib.hid hq2
        obtain ⟨c0, c1, c2, c3, c4, c5, c6, c7, c8, c9, c10⟩ := RC0.of hq2
        generalize wr.heap.size = b at *
        clear hx2 hq2 hz2'
        go_wp2_with fail
        refine (HPR.out _).mono ?_
        rintro _ w1 ⟨rfl, hx⟩
        have HG3 := Lib.hid (And.intro (ownsRow_extL HG2.out.1 hx) (HG2.out.2.trans hx))
        have hq3 := keep_rowB hx HQ.out
        clear c0 c1 c2 c3 c4 c5 c6 c7 c8 c9 c10 hx
        obtain ⟨c0, c1, c2, c3, c4, c5, c6, c7, c8, c9, c10⟩ := RC0.of hq3
        clear hq3
        have hsz := HG3.out.2.size
        cases q with
        | false =>
          go_wp2_with fail
          go_roundw
          case rel =>
            refine ⟨j + 1, by omega, by go_num, Lib.hid ?_⟩
            rw [HTK.out, List.filter_append, List.filter_cons_of_neg (by rw [HR.out]; decide), List.filter_nil, List.append_nil]
            exact HG3.out
          case measure => simp [intOf]; omega
        | true =>
          go_wp2_with (at_builtin; revert c0)
          intro c0
          refine wpList_append_own _ rfl _ _ 22 rfl w.heap.size 54 i0 (.agg #[.int .i64 0, .int .u8 0, .int .i64 0, .int .i64 0, .int .u8 0, .int .i64 0, .int .i64 0, .int .u8 0, .string ByteArray.empty, .string ByteArray.empty, .string ByteArray.empty]) 11 112 Try.underlying22 hi hz0 hz1 hz2 ?_ ?_ _ _ _ ?_ (ownsRow_extL HG3.out.1 ((Ext.refl w1).alloc _)) ⟨w1.heap.size, 0, none⟩ 1 1 (rptC r) ?_ ?_ ?_ ?_ ?_ ?_ ?_ ?_
          case refine_1 => rfl
          case refine_2 => decide
          case refine_3 => rfl
          case refine_4 => rfl
          case refine_5 => rfl
          case refine_6 => exact cells_newR _ _ _
          case refine_7 => exact rptC_one r
          case refine_8 => unfold maxLen; omega
          case refine_9 => omega
          case refine_10 => (simp; omega)
          intro v1 w3 hown hg _
          have HG4 : Hid (w3.ownsRow w.heap.size 54 11 v1 ((l.take (j + 1)).filter p).length (((l.take (j + 1)).filter p).flatMap rptC) ∧ Ext w w3) := by
            rw [HTK.out, List.filter_append, List.filter_cons_of_pos (by rw [HR.out]), List.filter_nil, List.length_append, List.flatMap_append, List.flatMap_cons, List.flatMap_nil, List.append_nil]
            exact Lib.hid ⟨hown, Below.grown (HG3.out.2.alloc _) hg (Nat.le_trans HG3.out.2.size (by simp)) (fun g hg' => (HG3.out.1.lt g hg').1)⟩
          clear hown hg c0 c1 c2 c3 c4 c5 c6 c7 c8 c9 c10
          go_wp2_with fail
          go_roundw
          case rel => exact ⟨j + 1, by omega, by go_num, HG4⟩
          case measure => simp [intOf]; omega
      · obtain rfl : j = n := by omega
        obtain ⟨A', c', hv, _⟩ := Ls.of_own (cells := rptC) (fun _ => rfl) (by omega) HG.out.1
        subst hv
        go_wp2_with fail
        go_ret
        have e : l.take j = l := List.take_of_length_le (by rw [HLN.out]; exact Nat.le_refl _)
        have ho := HG.out.1
        refine ⟨_, rfl, ?_, HG.out.2⟩
        rw [e] at ho ⊢
        exact ho
theorem ballot_infoR : (Try.prog.info? 40).map (fun i => (i.zero, i.size, i.bytes)) = some (some (.agg #[.int .i64 0, .int .i64 0]), 2, 16) := by kernel_rfl
theorem map_takeR {l : List Rpt} {k : Nat} {a : Rpt} (h : l[k]? = some a) : (l.map Rpt.b).take (k + 1) = (l.map Rpt.b).take k ++ [a.b] := take_oneR (by rw [List.getElem?_map, h]; rfl)
set_option maxHeartbeats 1600000 in
theorem greatest_of (A : Option Addr) (n c : Nat) (l : List Rpt) (w : World) (h : Ls rptC 11 w w.heap.size A n c l) (hn : n ≤ 20) :
    Calls Try.prog 41 #[.slice A n c] w fun e w' => e = .returned (.agg #[.int .i64 (maxB (l.map Rpt.b)).x, .int .i64 (maxB (l.map Rpt.b)).y]) ∧ Ext w w' := by
  have hcap := h.cap
  have hmost := h.most
  obtain ⟨i0, hi, hz0, hz1, hz2⟩ := info_parts ballot_infoR
  have H := Lib.hid h
  have HLN := Lib.hid h.len
  have hx0 := (Ext.refl w).alloc (.cells #[.int .i64 0, .int .i64 0] 40)
  have hr0 := heap_alloc_new w (.cells #[.int .i64 0, .int .i64 0] 40)
  have HX0 := Lib.hid hx0
  have HR0 := Lib.hid hr0
  clear h hx0 hr0
  go_enter Try.func41, Try.ntmps41
  go_upto_region 1 with (fail)
  generalize (w.alloc (.cells #[.int .i64 0, .int .i64 0] 40)) = W0 at *
  go_wp2_with fail
  go_loopw [3, 8] (fun v i wr => ∃ j : Nat, j ≤ n ∧ i = .int .i64 (j : Int) ∧ Hid (wr.ownsRow (w.heap.size + 1) 40 2 v ((l.map Rpt.b).take j).length (((l.map Rpt.b).take j).flatMap Bal.cells) ∧ Ext w wr ∧ wr.heap[w.heap.size]? = some (.cells #[.int .i64 0, .int .i64 0] 40 (0, 0)))) (fun _ i _ => n - (intOf i).toNat)
  case atStart => exact ⟨0, Nat.zero_le _, rfl, Lib.hid ⟨World.ownsRow_nil _ _ _ _, HX0.out, HR0.out⟩⟩
  case round =>
    obtain ⟨j, hj, rfl, HG⟩ := hrel
    by_cases hlt : j < n
    · obtain ⟨g, o, r, rfl, hgs, hb, hrc⟩ := Ls.rpt (H.out.below HG.out.2.1) hlt
      have HTK := Lib.hid (map_takeR hb)
      have hml : ((l.map Rpt.b).take j).length ≤ 20 := by rw [List.length_take]; omega
      obtain ⟨c0, c1, c2, c3, c4, c5, c6, c7, c8, c9, c10⟩ := hrc
      clear hb
      go_upto_region 5 with (fail)
      clear c0 c1 c2 c3 c4 c5 c6 c7 c8 c9 c10
      have hq2 : (wr.alloc (.cells #[.int .i64 r.ix, .int .u8 (r.st : Int), .int .i64 r.x, .int .i64 r.y, .int .u8 (r.e.k : Int), .int .i64 r.e.cl, .int .i64 r.e.sq, .int .u8 (r.e.ok : Int), .string r.e.key, .string r.e.old, .string r.e.val] 54)).heap[wr.heap.size]? = some (.cells (rptC r).toArray 54 (0, 0)) := heap_alloc_new wr _
      have hx2 := (Ext.refl wr).alloc (.cells #[.int .i64 r.ix, .int .u8 (r.st : Int), .int .i64 r.x, .int .i64 r.y, .int .u8 (r.e.k : Int), .int .i64 r.e.cl, .int .i64 r.e.sq, .int .u8 (r.e.ok : Int), .string r.e.key, .string r.e.old, .string r.e.val] 54)
      generalize (wr.alloc (.cells #[.int .i64 r.ix, .int .u8 (r.st : Int), .int .i64 r.x, .int .i64 r.y, .int .u8 (r.e.k : Int), .int .i64 r.e.cl, .int .i64 r.e.sq, .int .u8 (r.e.ok : Int), .string r.e.key, .string r.e.old, .string r.e.val] 54)) = V at *
      have HG2 := Lib.hid (And.intro (ownsRow_extL HG.out.1 hx2) (And.intro (HG.out.2.1.trans hx2) (keep_rowB hx2 HG.out.2.2)))
      have hsz := HG2.out.2.1.size
      have hsz1 : w.heap.size + 1 ≤ V.heap.size := (Array.getElem?_eq_some_iff.1 HG2.out.2.2).1
      obtain ⟨c0, c1, c2, c3, c4, c5, c6, c7, c8, c9, c10⟩ := RC0.of hq2
      generalize wr.heap.size = b at *
      clear hx2 hq2
      go_wp2_with (at_builtin; revert c0)
      intro c0
      refine wpList_append_own _ rfl _ _ 80 rfl (w.heap.size + 1) 40 i0 (.agg #[.int .i64 0, .int .i64 0]) 2 16 Try.underlying80 hi hz0 hz1 hz2 ?_ ?_ _ _ _ ?_ (ownsRow_extL HG2.out.1 ((Ext.refl V).alloc _)) ⟨V.heap.size, 0, none⟩ 1 1 (Bal.cells r.b) ?_ ?_ ?_ ?_ ?_ ?_ ?_ ?_
      case refine_1 => rfl
      case refine_2 => decide
      case refine_3 => rfl
      case refine_4 => rfl
      case refine_5 => rfl
      case refine_6 => exact cells_newR _ _ _
      case refine_7 => exact Bal.one2 r.b
      case refine_8 => unfold maxLen; omega
      case refine_9 => omega
      case refine_10 => (simp; omega)
      intro v1 w3 hown hg _
      have HG4 : Hid (w3.ownsRow (w.heap.size + 1) 40 2 v1 ((l.map Rpt.b).take (j + 1)).length (((l.map Rpt.b).take (j + 1)).flatMap Bal.cells) ∧ Ext w w3 ∧ w3.heap[w.heap.size]? = some (.cells #[.int .i64 0, .int .i64 0] 40 (0, 0))) := by
        rw [HTK.out, List.length_append, List.flatMap_append, List.flatMap_cons, List.flatMap_nil, List.append_nil]
        exact Lib.hid ⟨hown, Below.grown (HG2.out.2.1.alloc _) hg (Nat.le_trans HG2.out.2.1.size (by simp)) (fun g hg' => by have := (HG2.out.1.lt g hg').1; omega), row_grown (((Ext.refl V).alloc _).block _ (Array.getElem?_eq_some_iff.1 HG2.out.2.2).1 |>.trans HG2.out.2.2) hg fun e => by have := (HG2.out.1.lt _ e.symm).1; omega⟩
      clear hown hg c0 c1 c2 c3 c4 c5 c6 c7 c8 c9 c10
      go_wp2_with fail
      go_roundw
      case rel => exact ⟨j + 1, by omega, by go_num, HG4⟩
      case measure => simp [intOf]; omega
    · obtain rfl : j = n := by omega
      have e : (l.map Rpt.b).take j = l.map Rpt.b := List.take_of_length_le (by rw [List.length_map, HLN.out]; exact Nat.le_refl _)
      have ho := HG.out.1
      rw [e] at ho
      obtain ⟨A', c', hv, hL⟩ := Ls.of_own (cells := Bal.cells) (fun _ => rfl) (by omega) ho
      obtain ⟨M, hM⟩ : ∃ M, l.map Rpt.b = M := ⟨_, rfl⟩
      rw [hM] at hL hv
      have HM := Lib.hid hM
      have HLL := Lib.hid hL
      subst hv
      clear ho e hL hM
      go_wp2_with fail
      refine (maxB_of _ _ _ _ _ HLL.out).mono ?_
      rintro _ w1 ⟨rfl, hx⟩
      have hr := keep_rowB hx HG.out.2.2
      have HX := Lib.hid (HG.out.2.1.trans hx)
      obtain ⟨d0, d1, d2, d3⟩ := bal_row hr
      have HRR := Lib.hid hr
      clear hr hx
      go_wp2_with fail
      obtain ⟨f0, f1, _, _⟩ := bal_row (bal_store (maxB M).x (maxB M).y HRR.out)
      refine bodyPost_ret (v := .agg #[.int .i64 (maxB M).x, .int .i64 (maxB M).y]) (by simp [results, Try.results41, go_sem, f0, f1]) rfl ?_
      exact ⟨by rw [HM.out], (HX.out.setCell (p := ⟨w.heap.size, 0, none⟩) (Nat.le_refl _) _).setCell (p := ⟨w.heap.size, 1, none⟩) (Nat.le_refl _) _⟩
end
section
open Go Go.RowKit
abbrev S7 (w : World) (b : Nat) (e : Ent) : World := ((((((w.setCell ⟨b, 0, none⟩ (.int .u8 (e.k : Int))).setCell ⟨b, 1, none⟩ (.int .i64 e.cl)).setCell ⟨b, 2, none⟩ (.int .i64 e.sq)).setCell ⟨b, 3, none⟩ (.int .u8 (e.ok : Int))).setCell ⟨b, 4, none⟩ (.string e.key)).setCell ⟨b, 5, none⟩ (.string e.old)).setCell ⟨b, 6, none⟩ (.string e.val)
theorem S7.row {w : World} {b : Nat} {v0 v1 v2 v3 v4 v5 v6 : Value} {t : TypeId} (e : Ent) (h : w.heap[b]? = some (.cells #[v0, v1, v2, v3, v4, v5, v6] t (0, 0))) : (S7 w b e).heap[b]? = some (.cells #[.int .u8 (e.k : Int), .int .i64 e.cl, .int .i64 e.sq, .int .u8 (e.ok : Int), .string e.key, .string e.old, .string e.val] t (0, 0)) := by
  have h1 : (w.setCell ⟨b, 0, none⟩ (.int .u8 (e.k : Int))).heap[b]? = some (.cells #[.int .u8 (e.k : Int), v1, v2, v3, v4, v5, v6] t (0, 0)) := row_setB 0 h _ rfl
  unfold S7
  generalize w.setCell ⟨b, 0, none⟩ (.int .u8 (e.k : Int)) = w1 at h1 ⊢
  have h2 : (w1.setCell ⟨b, 1, none⟩ (.int .i64 e.cl)).heap[b]? = some (.cells #[.int .u8 (e.k : Int), .int .i64 e.cl, v2, v3, v4, v5, v6] t (0, 0)) := row_setB 1 h1 _ rfl
  generalize w1.setCell ⟨b, 1, none⟩ (.int .i64 e.cl) = w2 at h2 ⊢
  have h3 : (w2.setCell ⟨b, 2, none⟩ (.int .i64 e.sq)).heap[b]? = some (.cells #[.int .u8 (e.k : Int), .int .i64 e.cl, .int .i64 e.sq, v3, v4, v5, v6] t (0, 0)) := row_setB 2 h2 _ rfl
  generalize w2.setCell ⟨b, 2, none⟩ (.int .i64 e.sq) = w3 at h3 ⊢
  have h4 : (w3.setCell ⟨b, 3, none⟩ (.int .u8 (e.ok : Int))).heap[b]? = some (.cells #[.int .u8 (e.k : Int), .int .i64 e.cl, .int .i64 e.sq, .int .u8 (e.ok : Int), v4, v5, v6] t (0, 0)) := row_setB 3 h3 _ rfl
  generalize w3.setCell ⟨b, 3, none⟩ (.int .u8 (e.ok : Int)) = w4 at h4 ⊢
  have h5 : (w4.setCell ⟨b, 4, none⟩ (.string e.key)).heap[b]? = some (.cells #[.int .u8 (e.k : Int), .int .i64 e.cl, .int .i64 e.sq, .int .u8 (e.ok : Int), .string e.key, v5, v6] t (0, 0)) := row_setB 4 h4 _ rfl
  generalize w4.setCell ⟨b, 4, none⟩ (.string e.key) = w5 at h5 ⊢
  have h6 : (w5.setCell ⟨b, 5, none⟩ (.string e.old)).heap[b]? = some (.cells #[.int .u8 (e.k : Int), .int .i64 e.cl, .int .i64 e.sq, .int .u8 (e.ok : Int), .string e.key, .string e.old, v6] t (0, 0)) := row_setB 5 h5 _ rfl
  generalize w5.setCell ⟨b, 5, none⟩ (.string e.old) = w6 at h6 ⊢
  have h7 : (w6.setCell ⟨b, 6, none⟩ (.string e.val)).heap[b]? = some (.cells #[.int .u8 (e.k : Int), .int .i64 e.cl, .int .i64 e.sq, .int .u8 (e.ok : Int), .string e.key, .string e.old, .string e.val] t (0, 0)) := row_setB 6 h6 _ rfl
  exact h7
theorem S7.mod (w : World) (b : Nat) (e : Ent) : Mod (fun k => k = b) w (S7 w b e) := by
  refine Mod.setCell (F := fun k => k = b) (Mod.setCell (F := fun k => k = b) (Mod.setCell (F := fun k => k = b) (Mod.setCell (F := fun k => k = b) (Mod.setCell (F := fun k => k = b) (Mod.setCell (F := fun k => k = b) (Mod.setCell (F := fun k => k = b) (Mod.refl (fun k => k = b) w) (.inl rfl) _) (.inl rfl) _) (.inl rfl) _) (.inl rfl) _) (.inl rfl) _) (.inl rfl) _) (.inl rfl) _
theorem S7.off {w : World} {b b' : Nat} {o : Obj} (e : Ent) (hb : b' ≠ b) (h : w.heap[b']? = some o) : (S7 w b e).heap[b']? = some o := heap_mod h (S7.mod w b e) hb
theorem S7.ext {w0 w : World} {b : Nat} (e : Ent) (h : Ext w0 w) (hb : w0.heap.size ≤ b) : Ext w0 (S7 w b e) :=
  ((((((h.setCell (p := ⟨b, 0, none⟩) hb _).setCell (p := ⟨b, 1, none⟩) hb _).setCell (p := ⟨b, 2, none⟩) hb _).setCell (p := ⟨b, 3, none⟩) hb _).setCell (p := ⟨b, 4, none⟩) hb _).setCell (p := ⟨b, 5, none⟩) hb _).setCell (p := ⟨b, 6, none⟩) hb _
theorem ent_row {w : World} {b : Nat} {v0 v1 v2 v3 v4 v5 v6 : Value} {t : TypeId} (h : w.heap[b]? = some (.cells #[v0, v1, v2, v3, v4, v5, v6] t (0, 0))) :
    (w.cell? ⟨b, 0, none⟩ = some v0 ∧ w.cell? ⟨b, 1, none⟩ = some v1 ∧ w.cell? ⟨b, 2, none⟩ = some v2 ∧ w.cell? ⟨b, 3, none⟩ = some v3 ∧ w.cell? ⟨b, 4, none⟩ = some v4 ∧ w.cell? ⟨b, 5, none⟩ = some v5 ∧ w.cell? ⟨b, 6, none⟩ = some v6) ∧ w.frozen? ⟨b, 0, none⟩ = false ∧ w.frozen? ⟨b, 1, none⟩ = false ∧ w.frozen? ⟨b, 2, none⟩ = false ∧ w.frozen? ⟨b, 3, none⟩ = false ∧ w.frozen? ⟨b, 4, none⟩ = false ∧ w.frozen? ⟨b, 5, none⟩ = false ∧ w.frozen? ⟨b, 6, none⟩ = false :=
  ⟨⟨cell_of_row w b 0 _ _ _ h, cell_of_row w b 1 _ _ _ h, cell_of_row w b 2 _ _ _ h, cell_of_row w b 3 _ _ _ h, cell_of_row w b 4 _ _ _ h, cell_of_row w b 5 _ _ _ h, cell_of_row w b 6 _ _ _ h⟩, frozen_of_row w b 0 _ _ h, frozen_of_row w b 1 _ _ h, frozen_of_row w b 2 _ _ h, frozen_of_row w b 3 _ _ h, frozen_of_row w b 4 _ _ h, frozen_of_row w b 5 _ _ h, frozen_of_row w b 6 _ _ h⟩
end
section
open Go Go.RowKit
theorem bal_eql_zero (x y : Int) (w : World) : (binOp .eql 40 (.agg #[.int .i64 x, .int .i64 y]) (.agg #[.int .i64 0, .int .i64 0])).run Try.prog w = .ok (.bool (decide (x = 0 ∧ y = 0))) w := by
  have hf : Try.prog.stoodInHeld 40 = false := by kernel_rfl
  have hu := Try.underlying40
  rw [run_eql_struct, run_equalIn_agg _ _ _ _ _ (by rw [Program.fieldsOf, hu]) hf, Program.fieldsOf, hu]
  simp [Op.eqFields, go_sem]
  by_cases h1 : x = 0
  · by_cases h2 : y = 0
    · simp [h1, h2]
    · simp [h1, h2]
  · simp [h1]
set_option maxHeartbeats 400000 in
theorem maysize_of (n : Int) (w : World) : Calls Try.prog 47 #[.int .i64 n] w fun e w' => e = .returned (.bool (crowdB n)) ∧ w = w' := by
  by_cases h3 : n = 3
  · subst h3
    go_enter Try.func47, Try.ntmps47
    go_wp2
    go_ret
    exact ⟨rfl, rfl⟩
  by_cases h5 : n = 5
  · subst h5
    go_enter Try.func47, Try.ntmps47
    go_wp2
    go_ret
    exact ⟨rfl, rfl⟩
  by_cases h7 : n = 7
  · subst h7
    go_enter Try.func47, Try.ntmps47
    go_wp2
    go_ret
    exact ⟨rfl, rfl⟩
  have hc : crowdB n = false := decide_eq_false (by omega)
  rw [hc]
  have e3 : (n == 3) = false := by simpa using h3
  have e5 : (n == 5) = false := by simpa using h5
  have e7 : (n == 7) = false := by simpa using h7
  clear h3 h5 h7 hc
  go_enter Try.func47, Try.ntmps47
  go_wp2
  go_ret
  exact ⟨rfl, rfl⟩
def inB (a n b : Int) : Bool := decide (a ≤ n ∧ n ≤ b)
theorem inB_iff {a n b : Int} : inB a n b = true ↔ a ≤ n ∧ n ≤ b := decide_eq_true_iff
set_option maxHeartbeats 400000 in
theorem bwithin_of (a n b : Int) (w : World) : Calls Try.prog 48 #[.int .i64 a, .int .i64 n, .int .i64 b] w fun e w' => e = .returned (.bool (inB a n b)) ∧ w = w' := by
  by_cases h1 : a ≤ n
  · by_cases h2 : n ≤ b
    · have hd : inB a n b = true := inB_iff.2 ⟨h1, h2⟩
      rw [hd]
      clear hd
      go_enter Try.func48, Try.ntmps48
      go_wp2
      go_ret
      exact ⟨rfl, rfl⟩
    · have hd : inB a n b = false := by unfold inB; exact decide_eq_false fun h => h2 h.2
      rw [hd]
      clear hd
      go_enter Try.func48, Try.ntmps48
      go_wp2
      go_ret
      exact ⟨rfl, rfl⟩
  · have hd : inB a n b = false := by unfold inB; exact decide_eq_false fun h => h1 h.1
    rw [hd]
    clear hd
    go_enter Try.func48, Try.ntmps48
    go_wp2
    go_ret
    exact ⟨rfl, rfl⟩
def repB (i n : Int) : Bool := crowdB n && inB 0 i (n - 1)
theorem repB_iff {i n : Int} : repB i n = true ↔ (n = 3 ∨ n = 5 ∨ n = 7) ∧ 0 ≤ i ∧ i < n := by
  unfold repB
  rw [Bool.and_eq_true, crowdB_iff, inB_iff]
  omega
set_option maxHeartbeats 400000 in
theorem isreplica_of (i n : Int) (w : World) : Calls Try.prog 43 #[.int .i64 i, .int .i64 n] w fun e w' => e = .returned (.bool (repB i n)) ∧ w = w' := by
  have HM := Lib.hid (maysize_of n w)
  have HW := Lib.hid (bwithin_of 0 i (n - 1) w)
  unfold repB
  by_cases hc : crowdB n = true
  · have hb := crowdB_iff.1 hc
    have h1 : 1 ≤ n := by omega
    have h2 : n ≤ 7 := by omega
    rw [hc] at HM ⊢
    rw [Bool.true_and]
    generalize inB 0 i (n - 1) = r at HW ⊢
    clear hc hb
    go_enter Try.func43, Try.ntmps43
    go_wp2_with fail
    refine HM.out.mono ?_
    rintro e w1 ⟨rfl, rfl⟩
    go_wp2_with fail
    refine HW.out.mono ?_
    rintro e w1 ⟨rfl, rfl⟩
    go_wp2_with fail
    go_ret
    exact ⟨rfl, rfl⟩
  · have hc : crowdB n = false := by simpa using hc
    rw [hc] at HM ⊢
    rw [Bool.false_and]
    clear hc HW
    go_enter Try.func43, Try.ntmps43
    go_wp2_with fail
    refine HM.out.mono ?_
    rintro e w1 ⟨rfl, rfl⟩
    go_wp2_with fail
    go_ret
    exact ⟨rfl, rfl⟩
theorem may_zero {x y n : Int} (h : x = 0 ∧ y = 0) : mayB_ ⟨x, y⟩ n = crowdB n := by
  unfold mayB_
  rw [decide_eq_true (p := (⟨x, y⟩ : Bal).x = 0 ∧ (⟨x, y⟩ : Bal).y = 0) h, Bool.true_or, Bool.and_true]
theorem may_else {x y n : Int} (h : ¬ (x = 0 ∧ y = 0)) : mayB_ ⟨x, y⟩ n = (repB y n && inB 1 x 1099511627776) := by
  rw [Bool.eq_iff_iff, mayB_iff, Bool.and_eq_true, repB_iff, inB_iff]
  dsimp only
  omega
set_option maxHeartbeats 600000 in
theorem mayB_of (x y n : Int) (w : World) : Calls Try.prog 44 #[.agg #[.int .i64 x, .int .i64 y], .int .i64 n] w fun e w' => e = .returned (.bool (mayB_ ⟨x, y⟩ n)) ∧ Ext w w' := by
  have HX := Lib.hid ((Ext.refl w).alloc (.cells #[.int .i64 x, .int .i64 y] 40))
  have hq := bal_eql_zero x y
  have hg : Try.prog.eqGuardType Try.prog.depth 40 = false := by kernel_rfl
  by_cases h0 : x = 0 ∧ y = 0
  · rw [may_zero h0]
    rw [decide_eq_true h0] at hq
    clear h0
    go_enter Try.func44, Try.ntmps44
    go_wp2_with fail
    refine (maysize_of n _).mono ?_
    rintro e w1 ⟨rfl, rfl⟩
    go_wp2_with fail
    go_ret
    exact ⟨rfl, HX.out⟩
  · rw [may_else h0]
    rw [decide_eq_false h0] at hq
    clear h0
    obtain ⟨r, hr⟩ : ∃ r, repB y n = r := ⟨_, rfl⟩
    have HR := Lib.hid (fun V => isreplica_of y n V)
    rw [hr] at HR ⊢
    clear hr
    cases r with
    | true =>
      rw [Bool.true_and]
      go_enter Try.func44, Try.ntmps44
      go_wp2_with fail
      refine (HR.out _).mono ?_
      rintro e w1 ⟨rfl, rfl⟩
      go_wp2_with fail
      refine (bwithin_of 1 x 1099511627776 _).mono ?_
      rintro e w1 ⟨rfl, rfl⟩
      go_wp2_with fail
      go_ret
      exact ⟨rfl, HX.out⟩
    | false =>
      rw [Bool.false_and]
      go_enter Try.func44, Try.ntmps44
      go_wp2_with fail
      refine (HR.out _).mono ?_
      rintro e w1 ⟨rfl, rfl⟩
      go_wp2_with fail
      go_ret
      exact ⟨rfl, HX.out⟩
theorem okB_rep {x y r n : Int} : okB ⟨x, y⟩ r n = (repB r n && mayB_ ⟨x, y⟩ n) := by
  rw [Bool.eq_iff_iff, Bool.and_eq_true, repB_iff, okB_iff, mayB_iff]
  dsimp only
  omega
end
end Go.Proofs.Ytinflpheogglhaa

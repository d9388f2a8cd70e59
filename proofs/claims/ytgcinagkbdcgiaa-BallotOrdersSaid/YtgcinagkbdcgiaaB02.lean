/-
  The contract of ballot's Max.
-/
import Derived.Test.YtgcinagkbdcgiaaB00
import Derived.Test.YtgcinagkbdcgiaaB01
import Derived.Deep.DeepCutAuto
import Derived.Laws.AppendOwnNone
import Derived.Laws.AppendOwn
namespace Go.Proofs.Ytgcinagkbdcgiaa
set_option maxRecDepth 100000
section
open Go Go.RowKit
theorem ext_of_cellB {w w' : World} {g i : Nat} {v : Value} (h : Ext w w') (hc : w.cell? ⟨g, i, none⟩ = some v) : w'.cell? ⟨g, i, none⟩ = some v := (Below.cell h (p := ⟨g, i, none⟩) (World.block_lt_of_cell? w _ hc)).trans hc
theorem ballot_info : (Try.prog.info? 50).map (fun i => (i.zero, i.size, i.bytes)) = some (some (.agg #[.int .i64 0, .int .i64 0]), 2, 16) := by kernel_rfl
theorem ballot_size (w : World) : (sizeOf (Try.prog.elem 51)).run Try.prog w = .ok 2 w := by
  have ht : Try.prog.elem 51 = 50 := by kernel_rfl
  obtain ⟨i0, hi, _, hz1, _⟩ := info_parts ballot_info
  rw [ht]
  simp [Go.sizeOf, typeInfo, hi, hz1]
theorem cutB (g o n cp : Nat) (l : Int) (q : Nat) (hq : l = (q : Int)) (hl : q ≤ n) (hc : n ≤ cp) : ∃ o', (0 < n - q → o' = o + q * 2) ∧ ∀ w, (Instr.slice 51 (.slice (some ⟨g, o, none⟩) n cp) (some (.int .i64 l)) none none).run Try.prog w = .ok (.slice (some ⟨g, o', none⟩) (n - q) (cp - q)) w := by
  subst hq
  refine ⟨if cp = q then o else o + q * 2, fun h => by rw [if_neg (by omega)], fun w => ?_⟩
  have ht : Try.prog.elem 51 = 50 := by kernel_rfl
  rw [run_slice_l w 51 (some ⟨g, o, none⟩) n cp (by rw [ht]; exact Try.underlying51) .i64 (q : Int) (by omega) (by omega), ballot_size]
  simp only [Result.andThen, sliced, Int.toNat_natCast]
  split <;> simp [Addr.add]
theorem Ls.dropB {w : World} {B g o o' n c q : Nat} {l : List Bal} (h : Ls Bal.cells 2 w B (some ⟨g, o, none⟩) n c l) (hq : q ≤ n) (ho : 0 < n - q → o' = o + q * 2) : Ls Bal.cells 2 w B (some ⟨g, o', none⟩) (n - q) (c - q) (l.drop q) := by
  have hc := h.cap
  have hm := h.most
  refine ⟨by rw [List.length_drop, h.len], by omega, by omega, fun hn => ?_, fun e => by cases e⟩
  obtain ⟨g', o1, e, hg, hcell⟩ := h.rd (by omega)
  injection e with e
  injection e with e1 e2
  subst e1 e2
  refine ⟨g, o', rfl, hg, fun j a ha k v hv => ?_⟩
  rw [List.getElem?_drop] at ha
  rw [ho hn, show o + q * 2 + (j * 2 + k) = o + ((q + j) * 2 + k) by omega]
  exact hcell _ a ha k v hv
theorem Ls.moreB {α : Type} {cells : α → List Value} {N : Nat} {w : World} {B B' : Nat} {A : Option Addr} {n c : Nat} {l : List α} (h : Ls cells N w B A n c l) (hB : B ≤ B') : Ls cells N w B' A n c l :=
  ⟨h.len, h.cap, h.most, fun hn => by
    obtain ⟨g, o, e, hg, hc⟩ := h.rd hn
    exact ⟨g, o, e, by omega, hc⟩, h.nil_⟩
theorem keep_rowB {w w' : World} {b : Nat} {o : Obj} (k : Ext w w') (h : w.heap[b]? = some o) : w'.heap[b]? = some o := (k.block b (Array.getElem?_eq_some_iff.1 h).1).trans h
theorem row_setB {w : World} {g t : Nat} {fr : Nat × Nat} {cs cs' : Array Value} (i : Nat) (h : w.heap[g]? = some (.cells cs t fr)) (x : Value) (e : cs.setIfInBounds i x = cs') : (w.setCell ⟨g, i, none⟩ x).heap[g]? = some (.cells cs' t fr) := by
  subst e
  rw [setCell_eq_setRow w g i cs t fr x h]
  exact setRow_heap w g _ _ _ _ h
theorem bal_store {w : World} {b : Nat} {x y : Int} {t : TypeId} (x' y' : Int) (h : w.heap[b]? = some (.cells #[.int .i64 x, .int .i64 y] t (0, 0))) : ((w.setCell ⟨b, 0, none⟩ (.int .i64 x')).setCell ⟨b, 1, none⟩ (.int .i64 y')).heap[b]? = some (.cells #[.int .i64 x', .int .i64 y'] t (0, 0)) := row_setB 1 (row_setB 0 h (.int .i64 x') rfl) (.int .i64 y') rfl
theorem bal_stored {w : World} {b : Nat} (x' y' : Int) {b' : Nat} {o : Obj} (hb : b' ≠ b) (h' : w.heap[b']? = some o) : ((w.setCell ⟨b, 0, none⟩ (.int .i64 x')).setCell ⟨b, 1, none⟩ (.int .i64 y')).heap[b']? = some o := by
  have m1 : Mod (fun k => k = b) w (w.setCell ⟨b, 0, none⟩ (.int .i64 x')) := Mod.setCell (F := fun k => k = b) (Mod.refl (fun k => k = b) w) (p := ⟨b, 0, none⟩) (.inl rfl) _
  have m2 : Mod (fun k => k = b) (w.setCell ⟨b, 0, none⟩ (.int .i64 x')) ((w.setCell ⟨b, 0, none⟩ (.int .i64 x')).setCell ⟨b, 1, none⟩ (.int .i64 y')) := Mod.setCell (F := fun k => k = b) (Mod.refl (fun k => k = b) _) (p := ⟨b, 1, none⟩) (.inl rfl) _
  exact heap_mod (heap_mod h' m1 hb) m2 hb
def lenOf : Value → Nat
  | .slice _ n _ => n
  | _ => 0
theorem bal_row {w : World} {b : Nat} {x y : Int} {t : TypeId} (h : w.heap[b]? = some (.cells #[.int .i64 x, .int .i64 y] t (0, 0))) : w.cell? ⟨b, 0, none⟩ = some (.int .i64 x) ∧ w.cell? ⟨b, 1, none⟩ = some (.int .i64 y) ∧ w.frozen? ⟨b, 0, none⟩ = false ∧ w.frozen? ⟨b, 1, none⟩ = false :=
  ⟨cell_of_row w b 0 _ _ _ h, cell_of_row w b 1 _ _ _ h, frozen_of_row w b 0 _ _ h, frozen_of_row w b 1 _ _ h⟩
set_option maxHeartbeats 600000 in
theorem maxB_of (A : Option Addr) (n c : Nat) (l : List Bal) (w : World) (h : Ls Bal.cells 2 w w.heap.size A n c l) :
    Calls Try.prog 24 #[.slice A n c] w fun e w' => e = .returned (.agg #[.int .i64 (maxB l).x, .int .i64 (maxB l).y]) ∧ Ext w w' := by
  have hcap := h.cap
  have hmost := h.most
  have H := Lib.hid h
  have HLN := Lib.hid h.len
  clear h
  by_cases hn : n = 0
  · subst hn
    have hl : l = [] := List.length_eq_zero_iff.1 HLN.out
    subst hl
    go_enter Try.func24, Try.ntmps24
    go_wp2_with fail
    refine bodyPost_ret (v := .agg #[.int .i64 0, .int .i64 0]) (by simp [results, Try.results24, go_sem, (bal_one w 0 0 50).1, (bal_one w 0 0 50).2]) rfl ?_
    exact ⟨rfl, (Ext.refl w).alloc _⟩
  · obtain ⟨g, o, b, rfl, hb, c0, c1⟩ := Ls.bal H.out (show 0 < n by omega)
    obtain ⟨bx, by_⟩ := b
    dsimp only at c0 c1
    have hn1 : 0 < n := by omega
    have hn0 : ((n : Int) == 0) = false := by simpa using hn
    have HC := Lib.hid (And.intro c0 c1)
    obtain ⟨o1, ho1, hcut⟩ := cutB g o n c 1 1 rfl hn1 hcap
    have HO1 := Lib.hid ho1
    clear hn ho1
    go_enter Try.func24, Try.ntmps24
    go_wp2_with fail
    go_region_held3 (fun w' => w'.cell? ⟨g, o, none⟩ = some (.int .i64 bx) ∧ w'.cell? ⟨g, o + 1, none⟩ = some (.int .i64 by_))
      (exact ⟨ext_of_cellB (by repeat (first | exact Ext.refl _ | refine Ext.drew ?_ | refine Ext.alloc ?_ _ | refine Ext.setCell ?_ (by simp) _)) HC.out.1, ext_of_cellB (by repeat (first | exact Ext.refl _ | refine Ext.drew ?_ | refine Ext.alloc ?_ _ | refine Ext.setCell ?_ (by simp) _)) HC.out.2⟩)
      (fail)
    have hr3 : (((w.alloc (Obj.cells #[Value.int .i64 0, Value.int .i64 0] 50)).alloc (Obj.cells #[Value.int .i64 bx, Value.int .i64 by_] 50)).drew).heap[w.heap.size + 1]? = some (.cells #[.int .i64 bx, .int .i64 by_] 50 (0, 0)) := by
      have := heap_alloc_new (w.alloc (Obj.cells #[Value.int .i64 0, Value.int .i64 0] 50)) (Obj.cells #[Value.int .i64 bx, Value.int .i64 by_] 50)
      have e : (w.alloc (Obj.cells #[Value.int .i64 0, Value.int .i64 0] 50)).heap.size = w.heap.size + 1 := by simp
      rw [e] at this
      exact (((Ext.refl ((w.alloc (Obj.cells #[Value.int .i64 0, Value.int .i64 0] 50)).alloc (Obj.cells #[Value.int .i64 bx, Value.int .i64 by_] 50))).drew).block _ (by simp)).trans this
    have hr2 : (((w.alloc (Obj.cells #[Value.int .i64 0, Value.int .i64 0] 50)).alloc (Obj.cells #[Value.int .i64 bx, Value.int .i64 by_] 50)).drew).heap[w.heap.size]? = some (.cells #[.int .i64 0, .int .i64 0] 50 (0, 0)) := by
      have h1 := heap_alloc_new w (Obj.cells #[Value.int .i64 0, Value.int .i64 0] 50)
      have h2 := ((Ext.refl (w.alloc (Obj.cells #[Value.int .i64 0, Value.int .i64 0] 50))).alloc (Obj.cells #[Value.int .i64 bx, Value.int .i64 by_] 50)).drew
      exact (h2.block _ (by simp)).trans h1
    have hx0 : Ext w (((w.alloc (Obj.cells #[Value.int .i64 0, Value.int .i64 0] 50)).alloc (Obj.cells #[Value.int .i64 bx, Value.int .i64 by_] 50)).drew) := (((Ext.refl w).alloc _).alloc _).drew
    generalize (((w.alloc (Obj.cells #[Value.int .i64 0, Value.int .i64 0] 50)).alloc (Obj.cells #[Value.int .i64 bx, Value.int .i64 by_] 50)).drew) = W0 at *
    obtain ⟨b2, hb2⟩ : ∃ b2, w.heap.size = b2 := ⟨_, rfl⟩
    rw [hb2] at hr2 hr3 ⊢
    have HR3 := Lib.hid hr3
    have HR2 := Lib.hid hr2
    have HX0 := Lib.hid hx0
    have HB2 := Lib.hid hb2
    have HMX : Hid (maxB l = upB ⟨bx, by_⟩ (l.drop 1)) := Lib.hid (by
      cases l with
      | nil => cases hb
      | cons a t =>
        injection hb with hb
        subst hb
        rfl)
    clear hr3 hr2 hx0 hb2 hb c0 c1 hcut HC
    go_wp2_with fail
    go_loopw [4] (fun v wr => ∃ (k o' : Nat) (x y : Int), 1 ≤ k ∧ k ≤ n ∧ v = .slice (some ⟨g, o', none⟩) (n - k) (c - k) ∧ Hid (0 < n - k → o' = o + k * 2) ∧ Hid (maxB l = upB ⟨x, y⟩ (l.drop k)) ∧ Hid (wr.heap[b2 + 1]? = some (.cells #[.int .i64 x, .int .i64 y] 50 (0, 0))) ∧ Hid (wr.heap[b2]? = some (.cells #[.int .i64 0, .int .i64 0] 50 (0, 0))) ∧ Hid (Ext w wr)) (fun v _ => lenOf v)
    case atStart => exact ⟨1, o1, bx, by_, Nat.le_refl _, hn1, rfl, by simpa using HO1, HMX, HR3, HR2, HX0⟩
    case round =>
      obtain ⟨k, o', x, y, hk1, hkn, rfl, HO, HM, HR3, HR2, HX⟩ := hrel
      obtain ⟨e0, e1, e2, e3⟩ := bal_row HR3.out
      have hsz := HX.out.size
      have HLS : Hid (Ls Bal.cells 2 wr wr.heap.size (some ⟨g, o', none⟩) (n - k) (c - k) (l.drop k)) := Lib.hid (((H.out.dropB hkn HO.out).below HX.out).moreB hsz)
      go_wp2_with fail
      refine (indexB_of x y _ _ _ _ _ HLS.out).mono ?_
      rintro e w1 ⟨z, rfl, hz, hx⟩
      have HR3 := Lib.hid (keep_rowB hx HR3.out)
      have HR2 := Lib.hid (keep_rowB hx HR2.out)
      have HX := Lib.hid (HX.out.trans hx)
      clear e0 e1 e2 e3
      obtain ⟨e0, e1, e2, e3⟩ := bal_row HR3.out
      obtain ⟨d0, d1, d2, d3⟩ := bal_row HR2.out
      rcases hz with ⟨rfl, hz⟩ | ⟨i, a, rfl, ha, hl, hz⟩
      · have HE : Hid (maxB l = ⟨x, y⟩) := Lib.hid (HM.out.trans (upB_none hz))
        clear hz hx
        go_wp2_with fail
        obtain ⟨f0, f1, _, _⟩ := bal_row (bal_store x y HR2.out)
        refine bodyPost_ret (v := .agg #[.int .i64 x, .int .i64 y]) (by simp [results, Try.results24, go_sem, f0, f1]) rfl ?_
        have hb := HB2.out
        exact ⟨by rw [HE.out], (HX.out.setCell (p := ⟨b2, 0, none⟩) (by rw [hb]; exact Nat.le_refl _) _).setCell (p := ⟨b2, 1, none⟩) (by rw [hb]; exact Nat.le_refl _) _⟩
      · have HE : Hid (maxB l = upB a (l.drop (k + i + 1))) := Lib.hid (by rw [HM.out, upB_take hz ha hl, List.drop_drop, Nat.add_assoc])
        have hkl : k + i < n := by
          have := (List.getElem?_eq_some_iff.1 ha).1
          rw [List.length_drop, HLN.out] at this
          omega
        have ho' : o' = o + k * 2 := HO.out (by omega)
        have ha' : l[k + i]? = some a := by rw [List.getElem?_drop] at ha; exact ha
        obtain ⟨g', o2, a', eA, ha2, c0, c1⟩ := Ls.bal (H.out.below HX.out) hkl
        injection eA with eA
        injection eA with eA1 eA2
        subst eA1 eA2
        rw [ha'] at ha2
        injection ha2 with ha2
        subst ha2
        obtain ⟨ax, ay⟩ := a
        dsimp only at c0 c1
        obtain ⟨q, hq⟩ : ∃ q, o + (k + i) * 2 = q := ⟨_, rfl⟩
        have hqi : o' + i * 2 = q := by omega
        rw [hq] at c0 c1
        have d0' : w1.cell? ⟨g, o' + i * 2, none⟩ = some (.int .i64 ax) := by rw [hqi]; exact c0
        have d1' : w1.cell? ⟨g, o' + i * 2 + 1, none⟩ = some (.int .i64 ay) := by rw [hqi]; exact c1
        obtain ⟨o3, ho3, hcut⟩ := cutB g o' (n - k) (c - k) ((i : Int) + 1) (i + 1) (by omega) (by omega) (by omega)
        have HO3 : Hid (0 < n - (k + i + 1) → o3 = o + (k + i + 1) * 2) := Lib.hid (fun h => by rw [ho3 (by omega)]; omega)
        have hin : i < n - k := by omega
        have hqq := hq
        clear hz hx ha hl ha' hq hqi c0 c1 ho' ho3 hqq d0 d1 d2 d3
        go_wp2_with fail
        go_region
        have hb := HB2.out
        have HR3n := Lib.hid (keep_rowB ((Ext.refl _).drew) (bal_store ax ay HR3.out))
        have HR2n := Lib.hid (keep_rowB ((Ext.refl _).drew) (bal_stored ax ay (show b2 ≠ b2 + 1 by omega) HR2.out))
        have HXn := Lib.hid ((HX.out.setCell (p := ⟨b2 + 1, 0, none⟩) (by show w.heap.size ≤ b2 + 1; omega) (.int .i64 ax)).setCell (p := ⟨b2 + 1, 1, none⟩) (by show w.heap.size ≤ b2 + 1; omega) (.int .i64 ay)).drew
        generalize ((w1.setCell ⟨b2 + 1, 0, none⟩ (Value.int .i64 ax)).setCell ⟨b2 + 1, 1, none⟩ (Value.int .i64 ay)).drew = W2 at *
        clear d0' d1' e0 e1 e2 e3 hb
        go_wp2_with fail
        go_roundw
        case rel => exact ⟨k + i + 1, o3, ax, ay, by omega, by omega, by rw [show n - k - (i + 1) = n - (k + i + 1) by omega, show c - k - (i + 1) = c - (k + i + 1) by omega], HO3, HE, HR3n, HR2n, HXn⟩
        case measure => simp [lenOf]; omega
end
section
open Go Go.RowKit
theorem one_stored {w : World} {b b' i : Nat} {v : Value} {o : Obj} (hb : b' ≠ b) (h' : w.heap[b']? = some o) : (w.setCell ⟨b, i, none⟩ v).heap[b']? = some o :=
  heap_mod h' (Mod.setCell (F := fun k => k = b) (Mod.refl (fun k => k = b) w) (p := ⟨b, i, none⟩) (.inl rfl) v) hb
set_option maxHeartbeats 800000 in
theorem nextB_of (x y r n : Int) (w : World) : Calls Try.prog 28 #[.agg #[.int .i64 x, .int .i64 y], .int .i64 r, .int .i64 n] w fun e w' => e = .returned (.tuple #[.agg #[.int .i64 (nextB ⟨x, y⟩ r n).x, .int .i64 (nextB ⟨x, y⟩ r n).y], .int .i64 (errB ⟨x, y⟩ r n)]) ∧ Ext w w' := by
  have HX := Lib.hid ((Ext.refl w).alloc (.cells #[.int .i64 x, .int .i64 y] 50))
  have HX2 := Lib.hid (((Ext.refl w).alloc (.cells #[.int .i64 x, .int .i64 y] 50)).alloc (.cells #[.int .i64 0, .int .i64 0] 50))
  have hrow := heap_alloc_new w (.cells #[.int .i64 x, .int .i64 y] 50)
  have hrow2 := heap_alloc_new (w.alloc (.cells #[.int .i64 x, .int .i64 y] 50)) (.cells #[.int .i64 0, .int .i64 0] 50)
  have hrow1 := keep_rowB ((Ext.refl (w.alloc (.cells #[.int .i64 x, .int .i64 y] 50))).alloc (.cells #[.int .i64 0, .int .i64 0] 50)) hrow
  have e1 : (w.alloc (.cells #[.int .i64 x, .int .i64 y] 50)).heap.size = w.heap.size + 1 := by simp
  rw [e1] at hrow2
  have HR1 := Lib.hid hrow1
  have HR2 := Lib.hid hrow2
  clear hrow hrow1 hrow2 e1
  by_cases hok : okB ⟨x, y⟩ r n = true
  case neg =>
    have hok : okB ⟨x, y⟩ r n = false := by simpa using hok
    have hn : nextB ⟨x, y⟩ r n = ⟨0, 0⟩ := by unfold nextB; rw [hok]; rfl
    have he : errB ⟨x, y⟩ r n = 2 := by unfold errB; rw [hok]; rfl
    rw [hn, he]
    rw [okB_rep] at hok
    clear hn he
    have HREP := Lib.hid (fun V => isreplica_of r n V)
    have HMAY := Lib.hid (fun V => mayB_of x y n V)
    cases h1 : repB r n with
    | false =>
      rw [h1] at HREP
      clear hok h1
      go_enter Try.func28, Try.ntmps28
      go_wp2_with fail
      refine (HREP.out _).mono ?_
      rintro e w1 ⟨rfl, rfl⟩
      go_wp2_with fail
      obtain ⟨f0, f1, _, _⟩ := bal_row HR2.out
      refine bodyPost_ret (v := .tuple #[.agg #[.int .i64 0, .int .i64 0], .int .i64 2]) (by simp [results, Try.results28, go_sem, f0, f1]) rfl ?_
      exact ⟨rfl, HX2.out⟩
    | true =>
      rw [h1, Bool.true_and] at hok
      rw [h1] at HREP
      rw [hok] at HMAY
      clear hok h1
      go_enter Try.func28, Try.ntmps28
      go_wp2_with fail
      refine (HREP.out _).mono ?_
      rintro e w1 ⟨rfl, rfl⟩
      go_wp2_with fail
      refine (HMAY.out _).mono ?_
      rintro e w1 ⟨rfl, hx⟩
      have HXA := Lib.hid (HX2.out.trans hx)
      have HR2 := Lib.hid (keep_rowB hx HR2.out)
      obtain ⟨d0, d1, d2, d3⟩ := bal_row HR2.out
      clear hx
      go_wp2_with fail
      obtain ⟨f0, f1, _, _⟩ := bal_row (bal_store 0 0 HR2.out)
      refine bodyPost_ret (v := .tuple #[.agg #[.int .i64 0, .int .i64 0], .int .i64 2]) (by simp [results, Try.results28, go_sem, f0, f1]) rfl ?_
      exact ⟨rfl, (HXA.out.setCell (p := ⟨w.heap.size + 1, 0, none⟩) (by show w.heap.size ≤ w.heap.size + 1; omega) _).setCell (p := ⟨w.heap.size + 1, 1, none⟩) (by show w.heap.size ≤ w.heap.size + 1; omega) _⟩
  case pos =>
    have hk := okB_iff.1 hok
    rw [okB_rep, Bool.and_eq_true] at hok
    obtain ⟨h1, h2⟩ := hok
    have HREP := Lib.hid (fun V => isreplica_of r n V)
    have HMAY := Lib.hid (fun V => mayB_of x y n V)
    rw [h1] at HREP
    rw [h2] at HMAY
    obtain ⟨B, hB⟩ : ∃ B, nextB ⟨x, y⟩ r n = B := ⟨_, rfl⟩
    obtain ⟨E, hE⟩ : ∃ E, errB ⟨x, y⟩ r n = E := ⟨_, rfl⟩
    rw [hB, hE]
    have hnx : (if roundB ⟨x, y⟩ r ≤ 1099511627776 then (⟨roundB ⟨x, y⟩ r, r⟩ : Bal) else ⟨0, 0⟩) = B := by rw [← hB]; unfold nextB; rw [if_pos (okB_iff.2 hk)]
    have her : (if roundB ⟨x, y⟩ r ≤ 1099511627776 then (0 : Int) else 4) = E := by rw [← hE]; unfold errB; rw [if_pos (okB_iff.2 hk)]
    have HNX := Lib.hid (And.intro hnx her)
    clear h1 h2 hB hE hnx her
    go_enter Try.func28, Try.ntmps28
    go_wp2_with fail
    refine (HREP.out _).mono ?_
    rintro e w1 ⟨rfl, rfl⟩
    go_wp2_with fail
    refine (HMAY.out _).mono ?_
    rintro e w1 ⟨rfl, hx⟩
    have HXA := Lib.hid (HX2.out.trans hx)
    have HR2 := Lib.hid (keep_rowB hx HR2.out)
    have HR1 := Lib.hid (keep_rowB hx HR1.out)
    clear hx
    obtain ⟨b0, hb0⟩ : ∃ b0, w.heap.size = b0 := ⟨_, rfl⟩
    rw [hb0] at HR1 HR2 ⊢
    have HB0 := Lib.hid hb0
    clear hb0
    have hlt1 : b0 + 1 < w1.heap.size := (Array.getElem?_eq_some_iff.1 HR2.out).1
    obtain ⟨nb, hnb⟩ : ∃ nb, w1.heap.size = nb := ⟨_, rfl⟩
    obtain ⟨c0, c1, c2, c3⟩ := bal_row HR1.out
    have q0 := fun ob => (bal_row (keep_rowB ((Ext.refl w1).alloc ob) HR1.out)).1
    have q1 := fun ob => (bal_row (keep_rowB ((Ext.refl w1).alloc ob) HR1.out)).2.1
    have HNEW := Lib.hid (fun ob => heap_alloc_new w1 ob)
    rw [hnb] at HNEW
    by_cases hx0 : x = 0
    · have hy0 : y = 0 := by omega
      have HAN : Hid ((⟨1, r⟩ : Bal) = B ∧ (0 : Int) = E) := Lib.hid (by
        have h1 : roundB ⟨x, y⟩ r = 1 := by unfold roundB; rw [if_pos hx0]
        have := HNX.out
        rw [h1] at this
        exact this)
      have hl : ltB ⟨x, y⟩ ⟨1, r⟩ = true := ltB_iff.2 (.inl (by dsimp only; omega))
      have hx1 : x < 1 := by omega
      have HXN := Lib.hid (HXA.out.alloc (.cells #[.int .i64 1, .int .i64 r] 50))
      have HLS := Lib.hid (less_of x y 1 r (w1.alloc (.cells #[.int .i64 1, .int .i64 r] 50)))
      rw [hl] at HLS
      have HN := Lib.hid (HNEW.out (.cells #[.int .i64 1, .int .i64 r] 50))
      have HR2 := Lib.hid (keep_rowB ((Ext.refl w1).alloc (.cells #[.int .i64 1, .int .i64 r] 50)) HR2.out)
      clear hx0 hy0
      clear hl hk
      go_wp2_with fail
      refine HLS.out.mono ?_
      rintro e w2 ⟨rfl, hx⟩
      have HN := Lib.hid (keep_rowB hx HN.out)
      have HR2 := Lib.hid (keep_rowB hx HR2.out)
      have HXN := Lib.hid (HXN.out.trans hx)
      clear hx q0 q1 c0 c1 c2 c3
      obtain ⟨n0, n1, n2, n3⟩ := bal_row HN.out
      obtain ⟨d0, d1, d2, d3⟩ := bal_row HR2.out
      go_wp2_with fail
      obtain ⟨f0, f1, _, _⟩ := bal_row (bal_store 1 r HR2.out)
      refine bodyPost_ret (v := .tuple #[.agg #[.int .i64 1, .int .i64 r], .int .i64 0]) (by simp [results, Try.results28, go_sem, f0, f1]) rfl ?_
      have hbb := HB0.out
      exact ⟨by rw [← HAN.out.1, ← HAN.out.2], (HXN.out.setCell (p := ⟨b0 + 1, 0, none⟩) (by show w.heap.size ≤ b0 + 1; omega) _).setCell (p := ⟨b0 + 1, 1, none⟩) (by show w.heap.size ≤ b0 + 1; omega) _⟩
    · have hx1 : ¬ x < 1 := by omega
      have hxm : x ≤ 1099511627776 := by omega
      have hgt : ¬ 1099511627776 < x := by omega
      by_cases hyr : y < r
      · have HAN : Hid ((⟨x, r⟩ : Bal) = B ∧ (0 : Int) = E) := Lib.hid (by
          have h1 : roundB ⟨x, y⟩ r = x := by unfold roundB; rw [if_neg hx0, if_pos hyr]
          have := HNX.out
          rw [h1, if_pos hxm, if_pos hxm] at this
          exact this)
        have hl : ltB ⟨x, y⟩ ⟨x, r⟩ = true := ltB_iff.2 (.inr ⟨rfl, hyr⟩)
        have HXN := Lib.hid (HXA.out.alloc (.cells #[.int .i64 x, .int .i64 r] 50))
        have HLS := Lib.hid (less_of x y x r (w1.alloc (.cells #[.int .i64 x, .int .i64 r] 50)))
        rw [hl] at HLS
        have HN := Lib.hid (HNEW.out (.cells #[.int .i64 x, .int .i64 r] 50))
        have HR2 := Lib.hid (keep_rowB ((Ext.refl w1).alloc (.cells #[.int .i64 x, .int .i64 r] 50)) HR2.out)
        clear hx0 hyr
        clear hl hk
        go_wp2_with fail
        refine HLS.out.mono ?_
        rintro e w2 ⟨rfl, hx⟩
        have HN := Lib.hid (keep_rowB hx HN.out)
        have HR2 := Lib.hid (keep_rowB hx HR2.out)
        have HXN := Lib.hid (HXN.out.trans hx)
        clear hx q0 q1 c0 c1 c2 c3
        obtain ⟨n0, n1, n2, n3⟩ := bal_row HN.out
        obtain ⟨d0, d1, d2, d3⟩ := bal_row HR2.out
        go_wp2_with fail
        obtain ⟨f0, f1, _, _⟩ := bal_row (bal_store x r HR2.out)
        refine bodyPost_ret (v := .tuple #[.agg #[.int .i64 x, .int .i64 r], .int .i64 0]) (by simp [results, Try.results28, go_sem, f0, f1]) rfl ?_
        have hbb := HB0.out
        exact ⟨by rw [← HAN.out.1, ← HAN.out.2], (HXN.out.setCell (p := ⟨b0 + 1, 0, none⟩) (by show w.heap.size ≤ b0 + 1; omega) _).setCell (p := ⟨b0 + 1, 1, none⟩) (by show w.heap.size ≤ b0 + 1; omega) _⟩
      · have hl : ltB ⟨x, y⟩ ⟨x, r⟩ = false := ltB_not.2 (by dsimp only; omega)
        have h1 : roundB ⟨x, y⟩ r = x + 1 := by unfold roundB; rw [if_neg hx0, if_neg hyr]
        have HNX2 := HNX.out
        rw [h1] at HNX2
        have HN2 := Lib.hid HNX2
        clear HNX2 h1
        by_cases hm : x + 1 ≤ 1099511627776
        · have hm2 : ¬ 1099511627776 < x + 1 := by omega
          have HAN : Hid ((⟨x + 1, r⟩ : Bal) = B ∧ (0 : Int) = E) := Lib.hid (by
            have := HN2.out
            rw [if_pos hm, if_pos hm] at this
            exact this)
          have HXN := Lib.hid (HXA.out.alloc (.cells #[.int .i64 x, .int .i64 r] 50))
          have HLS := Lib.hid (less_of x y x r (w1.alloc (.cells #[.int .i64 x, .int .i64 r] 50)))
          rw [hl] at HLS
          have HN := Lib.hid (HNEW.out (.cells #[.int .i64 x, .int .i64 r] 50))
          have HR2 := Lib.hid (keep_rowB ((Ext.refl w1).alloc (.cells #[.int .i64 x, .int .i64 r] 50)) HR2.out)
          clear hx0 hyr hm
          clear hl hk
          go_wp2_with fail
          refine HLS.out.mono ?_
          rintro e w2 ⟨rfl, hx⟩
          have HN := Lib.hid (keep_rowB hx HN.out)
          have HR2 := Lib.hid (keep_rowB hx HR2.out)
          have HXN := Lib.hid (HXN.out.trans hx)
          clear hx q0 q1 c0 c1 c2 c3
          obtain ⟨n0, n1, n2, n3⟩ := bal_row HN.out
          obtain ⟨d0, d1, d2, d3⟩ := bal_row HR2.out
          go_wp2_with fail
          have HR2n := Lib.hid (one_stored (v := .int .i64 (x + 1)) (i := 0) (show b0 + 1 ≠ nb by omega) HR2.out)
          obtain ⟨f0, f1, _, _⟩ := bal_row (bal_store (x + 1) r HR2n.out)
          refine bodyPost_ret (v := .tuple #[.agg #[.int .i64 (x + 1), .int .i64 r], .int .i64 0]) (by simp [results, Try.results28, go_sem, f0, f1]) rfl ?_
          have hbb := HB0.out
          exact ⟨by rw [← HAN.out.1, ← HAN.out.2], ((HXN.out.setCell (p := ⟨nb, 0, none⟩) (by show w.heap.size ≤ nb; omega) _).setCell (p := ⟨b0 + 1, 0, none⟩) (by show w.heap.size ≤ b0 + 1; omega) _).setCell (p := ⟨b0 + 1, 1, none⟩) (by show w.heap.size ≤ b0 + 1; omega) _⟩
        · have hm2 : 1099511627776 < x + 1 := by omega
          have HAN : Hid ((⟨0, 0⟩ : Bal) = B ∧ (4 : Int) = E) := Lib.hid (by
            have := HN2.out
            rw [if_neg hm, if_neg hm] at this
            exact this)
          have HXN := Lib.hid (HXA.out.alloc (.cells #[.int .i64 x, .int .i64 r] 50))
          have HLS := Lib.hid (less_of x y x r (w1.alloc (.cells #[.int .i64 x, .int .i64 r] 50)))
          rw [hl] at HLS
          have HN := Lib.hid (HNEW.out (.cells #[.int .i64 x, .int .i64 r] 50))
          have HR2 := Lib.hid (keep_rowB ((Ext.refl w1).alloc (.cells #[.int .i64 x, .int .i64 r] 50)) HR2.out)
          clear hx0 hyr hm
          clear hl hk
          go_wp2_with fail
          refine HLS.out.mono ?_
          rintro e w2 ⟨rfl, hx⟩
          have HN := Lib.hid (keep_rowB hx HN.out)
          have HR2 := Lib.hid (keep_rowB hx HR2.out)
          have HXN := Lib.hid (HXN.out.trans hx)
          clear hx q0 q1 c0 c1 c2 c3
          obtain ⟨n0, n1, n2, n3⟩ := bal_row HN.out
          obtain ⟨d0, d1, d2, d3⟩ := bal_row HR2.out
          go_wp2_with fail
          have HR2n := Lib.hid (one_stored (v := .int .i64 (x + 1)) (i := 0) (show b0 + 1 ≠ nb by omega) HR2.out)
          obtain ⟨f0, f1, _, _⟩ := bal_row (bal_store 0 0 HR2n.out)
          refine bodyPost_ret (v := .tuple #[.agg #[.int .i64 0, .int .i64 0], .int .i64 4]) (by simp [results, Try.results28, go_sem, f0, f1]) rfl ?_
          have hbb := HB0.out
          exact ⟨by rw [← HAN.out.1, ← HAN.out.2], ((HXN.out.setCell (p := ⟨nb, 0, none⟩) (by show w.heap.size ≤ nb; omega) _).setCell (p := ⟨b0 + 1, 0, none⟩) (by show w.heap.size ≤ b0 + 1; omega) _).setCell (p := ⟨b0 + 1, 1, none⟩) (by show w.heap.size ≤ b0 + 1; omega) _⟩
end
section
open Go Go.RowKit
abbrev BC (w : World) (g : Nat) (x y : Int) : Prop := w.cell? ⟨g, 0, none⟩ = some (.int .i64 x) ∧ w.cell? ⟨g, 1, none⟩ = some (.int .i64 y)
theorem BC.ext {w w' : World} {g : Nat} {x y : Int} (hx : Ext w w') (h : BC w g x y) : BC w' g x y := ⟨ext_of_cellB hx h.1, ext_of_cellB hx h.2⟩
theorem BC.new (w : World) (x y : Int) (t : TypeId) : BC (w.alloc (.cells #[.int .i64 x, .int .i64 y] t)) w.heap.size x y := bal_one w x y t
abbrev S3 (w : World) (a : Nat) (x y : Int) (b : Nat) (x1 y1 : Int) (c : Nat) (x2 y2 : Int) : Prop := w.cell? ⟨a, 0, none⟩ = some (.int .i64 x) ∧ w.cell? ⟨a, 1, none⟩ = some (.int .i64 y) ∧ w.cell? ⟨b, 0, none⟩ = some (.int .i64 x1) ∧ w.cell? ⟨b, 1, none⟩ = some (.int .i64 y1) ∧ w.cell? ⟨c, 0, none⟩ = some (.int .i64 x2) ∧ w.cell? ⟨c, 1, none⟩ = some (.int .i64 y2)
theorem S3.ext {w w' : World} {a b c : Nat} {x y x1 y1 x2 y2 : Int} (hx : Ext w w') (h : S3 w a x y b x1 y1 c x2 y2) : S3 w' a x y b x1 y1 c x2 y2 := ⟨ext_of_cellB hx h.1, ext_of_cellB hx h.2.1, ext_of_cellB hx h.2.2.1, ext_of_cellB hx h.2.2.2.1, ext_of_cellB hx h.2.2.2.2.1, ext_of_cellB hx h.2.2.2.2.2⟩
abbrev S2B (w : World) (a : Nat) (x y : Int) (b : Nat) (x1 y1 : Int) : Prop := w.cell? ⟨a, 0, none⟩ = some (.int .i64 x) ∧ w.cell? ⟨a, 1, none⟩ = some (.int .i64 y) ∧ w.cell? ⟨b, 0, none⟩ = some (.int .i64 x1) ∧ w.cell? ⟨b, 1, none⟩ = some (.int .i64 y1)
theorem S2B.ext {w w' : World} {a b : Nat} {x y x1 y1 : Int} (hx : Ext w w') (h : S2B w a x y b x1 y1) : S2B w' a x y b x1 y1 := ⟨ext_of_cellB hx h.1, ext_of_cellB hx h.2.1, ext_of_cellB hx h.2.2.1, ext_of_cellB hx h.2.2.2⟩
theorem bal_eql (x y x' y' : Int) (w : World) : (binOp .eql 50 (.agg #[.int .i64 x, .int .i64 y]) (.agg #[.int .i64 x', .int .i64 y'])).run Try.prog w = .ok (.bool (decide (x = x' ∧ y = y'))) w := by
  have hf : Try.prog.stoodInHeld 50 = false := by kernel_rfl
  have hu := Try.underlying50
  rw [run_eql_struct, run_equalIn_agg _ _ _ _ _ (by rw [Program.fieldsOf, hu]) hf, Program.fieldsOf, hu]
  simp [Op.eqFields, go_sem]
  by_cases h1 : x = x'
  · by_cases h2 : y = y'
    · simp [h1, h2]
    · simp [h1, h2]
  · simp [h1]
theorem bal_neq (x y x' y' : Int) (w : World) : (binOp .neq 50 (.agg #[.int .i64 x, .int .i64 y]) (.agg #[.int .i64 x', .int .i64 y'])).run Try.prog w = .ok (.bool (!decide (x = x' ∧ y = y'))) w := by
  have hf : Try.prog.stoodInHeld 50 = false := by kernel_rfl
  have hu := Try.underlying50
  rw [run_neq_struct, run_equalIn_agg _ _ _ _ _ (by rw [Program.fieldsOf, hu]) hf, Program.fieldsOf, hu]
  simp [Op.eqFields, go_sem]
  by_cases h1 : x = x'
  · by_cases h2 : y = y'
    · simp [h1, h2]
    · simp [h1, h2]
  · simp [h1]
theorem ballot_guard : Try.prog.eqGuardType Try.prog.depth 50 = false := by kernel_rfl
end
section
open Go Go.RowKit
theorem flat_get {α : Type} {cells : α → List Value} {N : Nat} (hN : ∀ a, (cells a).length = N) (h0 : 0 < N) : ∀ (l : List α) (k j : Nat), j < N → (l.flatMap cells)[k * N + j]? = (l[k]?).bind fun a => (cells a)[j]?
  | [], k, j, _ => by simp
  | a :: l, 0, j, hj => by
    rw [List.flatMap_cons, List.getElem?_append_left (by rw [hN]; omega)]
    simp
  | a :: l, k + 1, j, hj => by
    rw [List.flatMap_cons, List.getElem?_append_right (by rw [hN, Nat.succ_mul]; omega), hN, show (k + 1) * N + j - N = k * N + j by rw [Nat.succ_mul]; omega, flat_get hN h0 l k j hj]
    simp
theorem flat_len {α : Type} {cells : α → List Value} {N : Nat} (hN : ∀ a, (cells a).length = N) : ∀ l : List α, (l.flatMap cells).length = l.length * N
  | [] => by simp
  | a :: l => by rw [List.flatMap_cons, List.length_append, hN, flat_len hN l, List.length_cons, Nat.succ_mul]; omega
theorem Ls.news {α : Type} {cells : α → List Value} {N : Nat} {w : World} {B : Nat} {ad : Addr} {n c : Nat} {l : List α} (hN : ∀ a, (cells a).length = N) (h0 : 0 < N) (h : Ls cells N w B (some ad) n c l) : ∀ j u, (l.flatMap cells)[j]? = some u → w.cell? (ad.add j) = some u := by
  intro j u hu
  have hj : j < (l.flatMap cells).length := (List.getElem?_eq_some_iff.1 hu).1
  rw [flat_len hN, h.len] at hj
  have hn : 0 < n := by
    rcases Nat.eq_zero_or_pos n with e | e
    · subst e; omega
    · exact e
  obtain ⟨g, o, hA, _, hc⟩ := h.rd hn
  injection hA with hA
  subst hA
  have e : j / N * N + j % N = j := by rw [Nat.mul_comm]; exact Nat.div_add_mod j N
  rw [← e, flat_get hN h0 l _ _ (Nat.mod_lt _ h0)] at hu
  obtain ⟨a, ha, hv⟩ := Option.bind_eq_some_iff.1 hu
  have := hc _ a ha _ u hv
  rw [e] at this
  rw [Addr.add_lit]
  exact this
theorem Ls.of_own {α : Type} {cells : α → List Value} {N : Nat} {w : World} {B : Nat} {e : TypeId} {v : Value} {l : List α} (hN : ∀ a, (cells a).length = N) (h0 : 0 < N) (h : w.ownsRow B e N v l.length (l.flatMap cells)) : ∃ A c, v = .slice A l.length c ∧ Ls cells N w w.heap.size A l.length c l := by
  rcases h.2 with ⟨rfl, hz⟩ | ⟨g, cap, cur, rfl, hB, hg, hn, hm, hs, ht⟩
  · have hl : l = [] := List.length_eq_zero_iff.1 hz
    subst hl
    exact ⟨none, 0, rfl, ⟨rfl, Nat.le_refl _, by omega, fun h => absurd h (by simp), fun _ => rfl⟩⟩
  · refine ⟨some ⟨g, 0, none⟩, cap, rfl, ⟨rfl, hn, by unfold maxLen at hm; exact hm, fun _ => ⟨g, 0, rfl, (Array.getElem?_eq_some_iff.1 hg).1, fun j a ha k x hx => ?_⟩, fun e => by cases e⟩⟩
    have hk : k < N := by have := (List.getElem?_eq_some_iff.1 hx).1; rw [hN] at this; exact this
    have hjl : j < l.length := (List.getElem?_eq_some_iff.1 ha).1
    have hf := flat_get hN h0 l j k hk
    rw [ha] at hf
    have hx2 : (l.flatMap cells)[j * N + k]? = some x := by rw [hf]; exact hx
    have hlt : j * N + k < l.length * N := by
      have : (j + 1) * N ≤ l.length * N := Nat.mul_le_mul_right _ hjl
      rw [Nat.succ_mul] at this
      omega
    rw [Nat.zero_add, cell_of_row w g _ _ _ _ hg, ← hx2, ← ht, List.getElem?_take_of_lt hlt, Array.getElem?_toList]
theorem Ls.of_row {α : Type} {cells : α → List Value} {N : Nat} {w : World} {B n : Nat} {e : TypeId} {v : Value} {l : List α} (hN : ∀ a, (cells a).length = N) (h0 : 0 < N) (hl : l.length = n) (h : w.ownsRow B e N v n (l.flatMap cells)) : ∃ A c, v = .slice A n c ∧ Ls cells N w w.heap.size A n c l := by
  subst hl
  exact Ls.of_own hN h0 h
theorem wp_append_ls {α : Type} {cells : α → List Value} {N : Nat} (hN : ∀ a, (cells a).length = N) (h0 : 0 < N) (h1 : ∀ a, ∀ u ∈ cells a, u.oneCell' = true) {P : Program} {w : World} {o : Oper} {a : Act} {K : Act → World → Prop} {Q : Exit → Act → World → Prop} (s x : Operand) (t : TypeId)
    (ho : o.op = .call { callee := .builtin .append, args := #[s, x], argTypes := #[t, t] })
    (base : Nat) (e : TypeId) (i : TypeInfo) (z : Value) (bytes : Nat) (ht : P.underlying t = some (.slice e)) (hi : P.info? e = some i) (hz : i.zero = some z) (hsize : i.size = N) (hby : i.bytes = bytes) (hzs : z.cells.size = N)
    (v : Value) (n : Nat) (xs : List Value) (hs : a.eval s = v) (hown : w.ownsRow base e N v n xs) (B : Nat) (A : Option Addr) (m c : Nat) (l : List α) (hx : a.eval x = .slice A m c) (hl : Ls cells N w B A m c l)
    (h63 : n + m ≤ maxLen) (hbytes : (n + m) * bytes ≤ 140737488355328) (hbase : base ≤ w.heap.size)
    (h : ∀ v' w', w'.ownsRow base e N v' (n + m) (xs ++ l.flatMap cells) → w.grownBy w' v.ownBlock → K (a.put o.dst v') w') : o.wp P a w K Q := by
  cases A with
  | none =>
    have hc := hl.nil_ rfl
    have hm : m = 0 := by have := hl.cap; omega
    subst hc hm
    have hl0 : l = [] := List.eq_nil_of_length_eq_zero hl.len
    subst hl0
    have hrun := run_append_owned_none (P := P) (w := w) base t o.type e i N ht hi v n xs hown
    unfold Oper.wp
    simp [execOp, ho, resolve, invoke, builtin, hs, hx, hrun, Result.andThen]
    exact h v w (by simpa using hown) (World.grownBy.refl _ _)
  | some ad =>
    exact wp_append_own w s x t ho base e i z N bytes ht hi hz hsize hby hzs h0 v n xs hs hown ad m c (l.flatMap cells) hx (by rw [flat_len hN, hl.len]) (hl.news hN h0) (fun u hu => by
      obtain ⟨b, _, hb⟩ := List.mem_flatMap.1 hu
      exact h1 b u hb) h63 hbytes hbase fun v' w' h2 h3 _ => h v' w' h2 h3
end
end Go.Proofs.Ytgcinagkbdcgiaa

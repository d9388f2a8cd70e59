/-
  The contract of the disk's Stray.
  The contract of slices.Backward at the pending writes, as an iterator: they come from the last one on.
-/
import Derived.Test.YtlikhmhomkiadaaDoorQ06
import Derived.Deep.RegionHeld3
import Derived.RangeFuncNested
import Derived.RangeFuncBound
import Derived.RangeFuncCalls
import Derived.RangeFuncLeaves
import Derived.Shelf.Abstract
import Derived.Shelf.RegionOpen
import Derived.WalkKit
import Derived.OwnWalkIn
import Derived.TacticsInMore
import Derived.LoopNIn
import Derived.LoopIn
namespace Go.Proofs.YtlikhmhomkiadaaDoor
set_option maxRecDepth 100000
open Go Go.RowKit

theorem known_two (m : DM) (a b : Int) : knownE m.size [a, b] = if m.has a = false ∨ m.has b = false then 2 else 0 := by
  unfold knownE DM.has
  by_cases ha : 0 ≤ a ∧ a < (m.size : Int)
  · by_cases hb : 0 ≤ b ∧ b < (m.size : Int)
    · rw [if_pos (by simp; omega), if_neg (by simp; omega)]
    · rw [if_neg (by simp; omega), if_pos (by simp; omega)]
  · rw [if_neg (by simp; omega), if_pos (by simp; omega)]
theorem ZsAt.two (w : World) (a b : Int) (t : TypeId) : ZsAt (w.alloc (.cells #[.int .i64 a, .int .i64 b] t)) (some ⟨w.heap.size, 0, none⟩) 2 [a, b] := by
  refine ⟨rfl, by omega, fun _ => ⟨_, rfl, fun j z hz => ?_⟩⟩
  rw [World.cell?_alloc_new]
  have hj : j < 2 := (List.getElem?_eq_some_iff.1 hz).1
  match j, hj with
  | 0, _ => simp at hz; subst hz; rfl
  | 1, _ => simp at hz; subst hz; rfl
theorem agg_med (w : World) : (isAgg 85).run Tryd.prog w = .ok true w := by
  unfold isAgg
  rw [Sem.run_bind, run_underlying Tryd.underlying85 w]
  rfl
theorem agg_wri (w : World) : (isAgg 82).run Tryd.prog w = .ok true w := by
  unfold isAgg
  rw [Sem.run_bind, run_underlying Tryd.underlying82 w]
  rfl
/-- How many cells a sector, a write has: for the walk, a letter. -/
theorem size_med : ∃ N, N = 129 ∧ ∀ w, (sizeOf 85).run Tryd.prog w = .ok N w := ⟨129, rfl, fun w => by
  have h := sz_med
  cases hq : Tryd.prog.info? 85 with
  | none => simp [hq] at h
  | some i => simp [hq] at h; simp [sizeOf, typeInfo, hq, h]⟩
theorem size_wri : ∃ N, N = 65 ∧ ∀ w, (sizeOf 82).run Tryd.prog w = .ok N w := ⟨65, rfl, fun w => by
  have h := sz_wri
  cases hq : Tryd.prog.info? 82 with
  | none => simp [hq] at h
  | some i => simp [hq] at h; simp [sizeOf, typeInfo, hq, h]⟩
theorem lcf (w : World) (g o N : Nat) (cs : List Value) (hl : cs.length = N) (h : w.rangeAt g o cs) : (loadCellsFrom ⟨g, o, none⟩ 0 N #[]).run Tryd.prog w = .ok cs.toArray w := by
  subst hl
  exact run_loadCells_list (P := Tryd.prog) w ⟨g, o, none⟩ cs (fun j v hv => by rw [Addr.add_mid]; exact h j v hv)
theorem scs (w : World) (t : TypeId) (c : Array Value) (cs : List Value) (hl : c.size = cs.length) (h1 : ∀ v ∈ cs, v.oneCell' = true) : (storeCells ⟨w.heap.size, 0, none⟩ cs 0).run Tryd.prog (w.alloc (.cells c t)) = .ok () (w.alloc (.cells cs.toArray t)) := by
  have h := run_storeCells_cells (P := Tryd.prog) w.heap.size 0 cs 0 (w.alloc (.cells c t)) (fun j hj => by
    rw [World.cell?_alloc_new, Array.getElem?_eq_getElem (by omega)]; rfl) (fun j hj => World.frozen?_alloc_new _ _ _ _) h1
  rw [h]
  congr 1
  have e : ((w.alloc (.cells c t)).setCells w.heap.size (0 + 0) cs) = w.alloc (.cells cs.toArray t) := by
    have key : ∀ (vs : List Value) (o : Nat) (c : Array Value), (w.alloc (.cells c t)).setCells w.heap.size o vs = w.alloc (.cells (vs.zipIdx o |>.foldl (fun a (p : Value × Nat) => a.setIfInBounds p.2 p.1) c) t) := by
      intro vs
      induction vs with
      | nil => intro o c; rfl
      | cons v r ih =>
        intro o c
        rw [World.setCells, World.setCell_alloc_new, ih]
        rfl
    rw [key]
    have := fold_put cs [] c.toList [] (by rw [Array.length_toList]; exact hl)
    simp only [List.length_nil, List.nil_append, List.append_nil] at this
    rw [show (0 + 0) = 0 from rfl]
    congr 2
  exact e

theorem stray_eq (m : DM) (a b : Int) : m.stray a b = if m.has a = false ∨ m.has b = false then (2, m) else (0, { m with rest := m.rest.set b.toNat (m.rest.getD a.toNat []), lost := m.lost.set b.toNat (m.lost.getD a.toNat false) }) := rfl
end Go.Proofs.YtlikhmhomkiadaaDoor

namespace Go.Proofs.YtlikhmhomkiadaaDoor
set_option maxRecDepth 100000
open Go Go.RowKit Go.Shelf
attribute [local go_sem] Oper.semAt_some

/-- A write of a whole sector. -/
abbrev W65 := { x : Nat × List Nat // Sect x.2 }
abbrev WI := Int × W65
def encW (x : WI) : Array Value := #[.int .i64 x.1, .agg (wriC x.2.1).toArray]
/-- What has come when the last k writes have. -/
def lastK (ws : List W65) (k : Nat) : List W65 := ws.reverse.take k
theorem lastK_succ {ws : List W65} {q : Nat} {x : W65} (hx : ws[q]? = some x) : lastK ws (ws.length - q) = lastK ws (ws.length - (q + 1)) ++ [x] := by
  have hq : q < ws.length := (List.getElem?_eq_some_iff.1 hx).1
  unfold lastK
  rw [show ws.length - q = (ws.length - (q + 1)) + 1 by omega, List.take_add_one]
  congr 1
  rw [List.getElem?_reverse (by omega), show ws.length - 1 - (ws.length - (q + 1)) = q by omega, hx]
  rfl

set_option maxRecDepth 100000 in
set_option maxHeartbeats 4000000 in
theorem back1_in (F : Fence) (n : Nat) (h56 : F.fn 83) (hro : F.round = none) (hn : 1 ≤ n) (l Bs n₀ b cap : Nat) (ws : List W65) (hlen : ws.length ≤ 9000000000000000000) (hb : b < n₀) (hB : Bs < n₀) (J Jx : List WI → World → Prop)
    (hY : ∀ pre x W, J pre W → pre.length < ws.length → YieldAt F (n - 1) Tryd.prog l (encW x) W fun e W' =>
      (e = .returned (.bool true) ∧ J (pre ++ [x]) W' ∧ Below n₀ W W') ∨ (e = .returned (.bool false) ∧ Jx (pre ++ [x]) W'))
    (W : World) (hBs : W.cell? ⟨Bs, 0, none⟩ = some (.slice (some ⟨b, 0, none⟩) ws.length cap)) (hc : ∀ j x, ws[j]? = some x → W.rangeAt b (j * 65) (wriC x.1)) (h0 : J [] W) :
    CallsIn F n Tryd.prog 83 #[.func (.yield l) #[] #[], .pointer (some ⟨Bs, 0, none⟩)] W fun e W' => (∃ v, e = .returned v) ∧
      ((∃ ys : List WI, ys.map (fun p => p.2) = ws.reverse ∧ J ys W') ∨ (∃ pre : List WI, (∃ k, pre.map (fun p => p.2) = lastK ws k) ∧ Jx pre W')) := by
  obtain ⟨N, hN, hsz⟩ := size_wri
  have hag := agg_wri
  have HN := Lib.hid hN
  obtain ⟨L, hL⟩ : ∃ L, ws.length = L := ⟨_, rfl⟩
  have HL := Lib.hid hL
  have HC := Lib.hid hc
  rw [hL] at hBs hlen
  clear hN hL hc
  refine callsIn_of_wp Tryd.func83 rfl h56 ?_ hro
  simp only [Tryd.ntmps83, List.size_toArray, List.length_cons, List.length_nil, Nat.reduceAdd, Nat.reduceSub, Array.replicate_succ, Array.replicate_zero, List.push_toArray, List.append_toArray, List.nil_append, List.cons_append]
  gi_wp2
  gi_loopw [3] (fun i wr => ∃ (q : Nat) (pre : List WI), q ≤ L ∧ i = .int .i64 ((q : Int) - 1) ∧ pre.map (fun p => p.2) = lastK ws (L - q) ∧ J pre wr ∧ Below n₀ W wr) (fun i _ => (intOf i + 1).toNat)
  case atStart => exact ⟨L, [], Nat.le_refl _, by go_num, by simp [lastK], h0, Below.refl _ _⟩
  case round =>
    obtain ⟨q, pre, hq, rfl, hpre, hJs, hnx⟩ := hrel
    have HP := Lib.hid hpre
    have HNX := Lib.hid hnx
    have hbs := (hnx.cell (p := ⟨Bs, 0, none⟩) hB).trans hBs
    have hlp : pre.length = L - q := by
      have h1 := congrArg List.length hpre
      rw [List.length_map] at h1
      rw [h1, lastK, List.length_take, List.length_reverse, HL.out]
      omega
    clear hpre hnx
    cases q with
    | zero =>
      have HF : Hid (pre.map (fun p => p.2) = ws.reverse) := Lib.hid (by
        rw [HP.out, lastK, List.take_of_length_le (by rw [List.length_reverse, HL.out]; omega)])
      simp only [Int.natCast_zero, Int.zero_sub] at *
      gi_wp2
      go_end0
      exact ⟨⟨_, rfl⟩, .inl ⟨pre, HF.out, hJs⟩⟩
    | succ q =>
      rw [show ((q + 1 : Nat) : Int) - 1 = (q : Int) by omega]
      obtain ⟨x, hx⟩ : ∃ x, ws[q]? = some x := ⟨_, List.getElem?_eq_getElem (by rw [HL.out]; omega)⟩
      have hr : wr.rangeAt b (q * N) (wriC x.1) := by
        rw [HN.out]
        intro j v hv
        exact (HNX.out.cell (p := ⟨b, q * 65 + j, none⟩) hb).trans (HC.out q x hx j v hv)
      have hl65 : (wriC x.1).length = N := by rw [HN.out]; exact wriC_len x.2.1
      have hld : (loadCellsFrom ⟨b, q * N, none⟩ 0 N #[]).run Tryd.prog wr = .ok (wriC x.1).toArray wr := lcf wr b _ N _ hl65 hr
      obtain ⟨fn, tmps, assign, body, hy, hR⟩ := hY pre ((q : Int), x) wr hJs (by rw [hlp, HL.out]; omega)
      have HX := Lib.hid hx
      have hq0 : (0 : Int) ≤ (q : Int) := by omega
      have hqL : (q : Int) < (L : Int) := by omega
      dsimp only [encW] at hy
      clear hr hx hl65
      gi_wp2
      refine hR.mono ?_
      rintro e W3 (⟨rfl, hJ3, hk3⟩ | ⟨rfl, hJx3⟩)
      · gi_wp2
        go_roundw
        case rel => exact ⟨q, pre ++ [((q : Int), x)], by omega, by go_num, by
          rw [List.map_append, HP.out]
          have := lastK_succ HX.out
          rw [HL.out] at this
          rw [this]
          rfl, hJ3, HNX.out.trans hk3⟩
        case measure => simp [intOf]
      · gi_wp2
        refine bodyPost_ret (results_none rfl _ _ _) rfl ?_
        exact ⟨⟨_, rfl⟩, .inr ⟨pre ++ [((q : Int), x)], ⟨L - q, by
          rw [List.map_append, HP.out]
          have := lastK_succ HX.out
          rw [HL.out] at this
          rw [this]
          rfl⟩, hJx3⟩⟩

set_option maxRecDepth 100000 in
set_option maxHeartbeats 1000000 in
theorem back1_nil_in (F : Fence) (n : Nat) (h56 : F.fn 83) (hro : F.round = none) (l Bs : Nat) (J : List WI → World → Prop) (W : World) (hBs : W.cell? ⟨Bs, 0, none⟩ = some (.slice none 0 0)) (h0 : J [] W) :
    CallsIn F n Tryd.prog 83 #[.func (.yield l) #[] #[], .pointer (some ⟨Bs, 0, none⟩)] W fun e W' => (∃ v, e = .returned v) ∧ J [] W' := by
  refine callsIn_of_wp Tryd.func83 rfl h56 ?_ hro
  simp only [Tryd.ntmps83, List.size_toArray, List.length_cons, List.length_nil, Nat.reduceAdd, Nat.reduceSub, Array.replicate_succ, Array.replicate_zero, List.push_toArray, List.append_toArray, List.nil_append, List.cons_append]
  gi_wp2
  gi_loopw [3] (fun i wr => i = .int .i64 (-1) ∧ J [] wr) (fun _ _ => 0)
  case atStart => exact ⟨rfl, h0⟩
  case round =>
    obtain ⟨rfl, hJs⟩ := hrel
    gi_wp2
    go_end0
    exact ⟨⟨_, rfl⟩, hJs⟩
set_option maxHeartbeats 1000000 in
theorem back_in (a : Option Addr) (len cap : Nat) (w : World) :
    Calls Tryd.prog 78 #[.slice a len cap] w fun e w' => e = .returned (.func (.func 83) #[] #[.pointer (some ⟨w.heap.size, 0, none⟩)]) ∧ w' = w.alloc (.cells #[.slice a len cap] 73) := by
  go_enter Tryd.func78, Tryd.ntmps78
  go_wp2
  go_ret
  exact ⟨rfl, rfl⟩
/-- The pending writes, as such. -/
def wsOfW (l : List (Nat × List Nat)) (h : ∀ x ∈ l, Sect x.2) : List W65 := l.attach.map fun y => ⟨y.1, h y.1 y.2⟩
theorem wsOfW_map (l : List (Nat × List Nat)) (h : ∀ x ∈ l, Sect x.2) : (wsOfW l h).map (fun y => y.1) = l := by
  unfold wsOfW
  rw [List.map_map]
  exact List.attach_map_subtype_val l
theorem wsOfW_len (l : List (Nat × List Nat)) (h : ∀ x ∈ l, Sect x.2) : (wsOfW l h).length = l.length := by simp [wsOfW]
theorem back_stops (n : Nat) (hn : 1 ≤ n) {W : World} {d g : Nat} {pv : Value} {m : DM} (h : PD W d g pv m) (hfew : m.waits.length ≤ 9000000000000000000) (Bs : Nat) (hBs : W.cell? ⟨Bs, 0, none⟩ = some pv) :
    SeqStopsK Fence.wide n Tryd.prog 83 #[.pointer (some ⟨Bs, 0, none⟩)] encW (Below W.heap.size)
      (fun ys : List WI => ys.map (fun p => p.2.1) = m.waits.reverse) (fun pre : List WI => ∃ k, pre.map (fun p => p.2.1) = m.waits.reverse.take k) m.waits.length W := fun l J Jx V hV _ _ hY h0 => by
  have hBl : Bs < W.heap.size := World.block_lt_of_cell? W _ hBs
  have hBs' := (hV.cell (p := ⟨Bs, 0, none⟩) hBl).trans hBs
  have hws : ∀ x ∈ m.waits, Sect x.2 := fun x hx => (h.ok.waits x hx).2
  have hmp := wsOfW_map m.waits hws
  have hml := wsOfW_len m.waits hws
  have conv : ∀ ys : List WI, ys.map (fun p => p.2.1) = (ys.map (fun p => p.2)).map (fun y => y.1) := fun ys => by rw [List.map_map]; rfl
  rcases h.pen.2 with ⟨e, hz⟩ | ⟨b, cap, cur, e, _, hg, _⟩
  · rw [e] at hBs'
    have hm0 : m.waits = [] := List.eq_nil_of_length_eq_zero hz
    exact (back1_nil_in Fence.wide n trivial rfl l Bs J V hBs' h0).mono fun e W' ⟨he, hj⟩ => ⟨he, .inl ⟨[], by rw [hm0]; rfl, hj⟩⟩
  · rw [e, ← hml] at hBs'
    have hb : b < W.heap.size := (Array.getElem?_eq_some_iff.1 hg).1
    refine (back1_in Fence.wide n trivial rfl hn l Bs W.heap.size b cap (wsOfW m.waits hws) (by rw [hml]; exact hfew) hb hBl J Jx (fun pre x W' hj hlt => hY pre x W' hj (by rw [← hml]; exact hlt)) V hBs' (fun j x hx => ?_) h0).mono ?_
    · have hx2 : m.waits[j]? = some x.1 := by
        rw [← hmp, List.getElem?_map, hx]
        rfl
      obtain ⟨b', c', e2, hr⟩ := h.pen_at hx2
      rw [e] at e2
      injection e2 with e3 _ _
      injection e3 with e3
      injection e3 with e3
      subst e3
      intro i v hv
      exact (hV.cell (p := ⟨b, j * 65 + i, none⟩) hb).trans (hr i v hv)
    · rintro e W' ⟨he, ⟨ys, hys, hj⟩ | ⟨pre, ⟨k, hk⟩, hj⟩⟩
      · exact ⟨he, .inl ⟨ys, (conv ys).trans (by rw [hys, List.map_reverse, hmp]), hj⟩⟩
      · exact ⟨he, .inr ⟨pre, ⟨k, (conv pre).trans (by rw [hk, lastK, List.map_take, List.map_reverse, hmp])⟩, hj⟩⟩
end Go.Proofs.YtlikhmhomkiadaaDoor

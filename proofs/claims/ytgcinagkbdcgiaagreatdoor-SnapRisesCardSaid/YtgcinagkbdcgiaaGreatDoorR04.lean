/-
  The contract of slices.Backward at the pending writes, as an iterator: they come from the last one on.
-/
import Derived.Test.YtgcinagkbdcgiaaGreatDoorR00
import Derived.Test.YtgcinagkbdcgiaaGreatDoorR03
import Derived.RangeFuncNested
import Derived.RangeFuncBound
import Derived.RangeFuncCalls
import Derived.RangeFuncLeaves
import Derived.Shelf.Abstract
import Derived.Shelf.RegionOpen
import Derived.WalkKit
import Derived.OwnWalkIn
import Derived.TacticsInMore
import Derived.LoopNIn
import Derived.LoopIn
namespace Go.Proofs.YtgcinagkbdcgiaaGreatDoor
set_option maxRecDepth 100000
section
open Go Go.RowKit Go.Shelf
attribute [local go_sem] Oper.semAt_some
abbrev W65 := { x : Nat × List Nat // Sect x.2 }
abbrev WI := Int × W65
def encW (x : WI) : Array Value := #[.int .i64 x.1, .agg (wriC x.2.1).toArray]
def lastK (ws : List W65) (k : Nat) : List W65 := ws.reverse.take k
theorem lastK_succ {ws : List W65} {q : Nat} {x : W65} (hx : ws[q]? = some x) : lastK ws (ws.length - q) = lastK ws (ws.length - (q + 1)) ++ [x] := by
  have hq : q < ws.length := (List.getElem?_eq_some_iff.1 hx).1
  unfold lastK
  rw [show ws.length - q = (ws.length - (q + 1)) + 1 by omega, List.take_add_one]
  congr 1
  rw [List.getElem?_reverse (by omega), show ws.length - 1 - (ws.length - (q + 1)) = q by omega, hx]
  rfl
set_option maxHeartbeats 4000000 in
theorem back1_in (F : Fence) (n : Nat) (h56 : F.fn 276) (hro : F.round = none) (hn : 1 ≤ n) (l Bs n₀ b cap : Nat) (ws : List W65) (hlen : ws.length ≤ 9000000000000000000) (hb : b < n₀) (hB : Bs < n₀) (J Jx : List WI → World → Prop)
    (hY : ∀ pre x W, J pre W → pre.length < ws.length → YieldAt F (n - 1) Tryz.prog l (encW x) W fun e W' =>
      (e = .returned (.bool true) ∧ J (pre ++ [x]) W' ∧ Below n₀ W W') ∨ (e = .returned (.bool false) ∧ Jx (pre ++ [x]) W'))
    (W : World) (hBs : W.cell? ⟨Bs, 0, none⟩ = some (.slice (some ⟨b, 0, none⟩) ws.length cap)) (hc : ∀ j x, ws[j]? = some x → W.rangeAt b (j * 65) (wriC x.1)) (h0 : J [] W) :
    CallsIn F n Tryz.prog 276 #[.func (.yield l) #[] #[], .pointer (some ⟨Bs, 0, none⟩)] W fun e W' => (∃ v, e = .returned v) ∧
      ((∃ ys : List WI, ys.map (fun p => p.2) = ws.reverse ∧ J ys W') ∨ (∃ pre : List WI, (∃ k, pre.map (fun p => p.2) = lastK ws k) ∧ Jx pre W')) := by
  obtain ⟨N, hN, hsz⟩ := size_wri
  have hag := agg_wri
  have HN := Lib.hid hN
  obtain ⟨L, hL⟩ : ∃ L, ws.length = L := ⟨_, rfl⟩
  have HL := Lib.hid hL
  have HC := Lib.hid hc
  rw [hL] at hBs hlen
  clear hN hL hc
  refine callsIn_of_wp Tryz.func276 rfl h56 ?_ hro
  simp only [Tryz.ntmps276, List.size_toArray, List.length_cons, List.length_nil, Nat.reduceAdd, Nat.reduceSub, Array.replicate_succ, Array.replicate_zero, List.push_toArray, List.append_toArray, List.nil_append, List.cons_append]
  gi_wp2
  gi_loopw [3] (fun i wr => ∃ (q : Nat) (pre : List WI), q ≤ L ∧ i = .int .i64 ((q : Int) - 1) ∧ pre.map (fun p => p.2) = lastK ws (L - q) ∧ J pre wr ∧ Below n₀ W wr) (fun i _ => (intOf i + 1).toNat)
  case atStart => exact ⟨L, [], Nat.le_refl _, by go_num, by simp [lastK], h0, Below.refl _ _⟩
  case round =>
    obtain ⟨q, pre, hq, rfl, hpre, hJs, hnx⟩ := hrel
    have HP := Lib.hid hpre
    have HNX := Lib.hid hnx
    have hbs := (hnx.cell (p := ⟨Bs, 0, none⟩) hB).trans hBs
    have hlp : pre.length = L - q := by
      have h1 := congrArg List.length hpre
      rw [List.length_map] at h1
      rw [h1, lastK, List.length_take, List.length_reverse, HL.out]
      omega
    clear hpre hnx
    cases q with
    | zero =>
      have HF : Hid (pre.map (fun p => p.2) = ws.reverse) := Lib.hid (by
        rw [HP.out, lastK, List.take_of_length_le (by rw [List.length_reverse, HL.out]; omega)])
      simp only [Int.natCast_zero, Int.zero_sub] at *
      gi_wp2
      go_end0
      exact ⟨⟨_, rfl⟩, .inl ⟨pre, HF.out, hJs⟩⟩
    | succ q =>
      rw [show ((q + 1 : Nat) : Int) - 1 = (q : Int) by omega]
      obtain ⟨x, hx⟩ : ∃ x, ws[q]? = some x := ⟨_, List.getElem?_eq_getElem (by rw [HL.out]; omega)⟩
      have hr : wr.rangeAt b (q * N) (wriC x.1) := by
        rw [HN.out]
        intro j v hv
        exact (HNX.out.cell (p := ⟨b, q * 65 + j, none⟩) hb).trans (HC.out q x hx j v hv)
      have hl65 : (wriC x.1).length = N := by rw [HN.out]; exact wriC_len x.2.1
      have hld : (loadCellsFrom ⟨b, q * N, none⟩ 0 N #[]).run Tryz.prog wr = .ok (wriC x.1).toArray wr := lcf wr b _ N _ hl65 hr
      obtain ⟨fn, tmps, assign, body, hy, hR⟩ := hY pre ((q : Int), x) wr hJs (by rw [hlp, HL.out]; omega)
      have HX := Lib.hid hx
      have hq0 : (0 : Int) ≤ (q : Int) := by omega
      have hqL : (q : Int) < (L : Int) := by omega
      dsimp only [encW] at hy
      clear hr hx hl65
      gi_wp2
      refine hR.mono ?_
      rintro e W3 (⟨rfl, hJ3, hk3⟩ | ⟨rfl, hJx3⟩)
      · gi_wp2
        go_roundw
        case rel => exact ⟨q, pre ++ [((q : Int), x)], by omega, by go_num, by
          rw [List.map_append, HP.out]
          have := lastK_succ HX.out
          rw [HL.out] at this
          rw [this]
          rfl, hJ3, HNX.out.trans hk3⟩
        case measure => simp [intOf]
      · gi_wp2
        refine bodyPost_ret (results_none rfl _ _ _) rfl ?_
        exact ⟨⟨_, rfl⟩, .inr ⟨pre ++ [((q : Int), x)], ⟨L - q, by
          rw [List.map_append, HP.out]
          have := lastK_succ HX.out
          rw [HL.out] at this
          rw [this]
          rfl⟩, hJx3⟩⟩
set_option maxHeartbeats 1000000 in
theorem back1_nil_in (F : Fence) (n : Nat) (h56 : F.fn 276) (hro : F.round = none) (l Bs : Nat) (J : List WI → World → Prop) (W : World) (hBs : W.cell? ⟨Bs, 0, none⟩ = some (.slice none 0 0)) (h0 : J [] W) :
    CallsIn F n Tryz.prog 276 #[.func (.yield l) #[] #[], .pointer (some ⟨Bs, 0, none⟩)] W fun e W' => (∃ v, e = .returned v) ∧ J [] W' := by
  refine callsIn_of_wp Tryz.func276 rfl h56 ?_ hro
  simp only [Tryz.ntmps276, List.size_toArray, List.length_cons, List.length_nil, Nat.reduceAdd, Nat.reduceSub, Array.replicate_succ, Array.replicate_zero, List.push_toArray, List.append_toArray, List.nil_append, List.cons_append]
  gi_wp2
  gi_loopw [3] (fun i wr => i = .int .i64 (-1) ∧ J [] wr) (fun _ _ => 0)
  case atStart => exact ⟨rfl, h0⟩
  case round =>
    obtain ⟨rfl, hJs⟩ := hrel
    gi_wp2
    go_end0
    exact ⟨⟨_, rfl⟩, hJs⟩
set_option maxHeartbeats 1000000 in
theorem back_in (a : Option Addr) (len cap : Nat) (w : World) :
    Calls Tryz.prog 247 #[.slice a len cap] w fun e w' => e = .returned (.func (.func 276) #[] #[.pointer (some ⟨w.heap.size, 0, none⟩)]) ∧ w' = w.alloc (.cells #[.slice a len cap] 118) := by
  go_enter Tryz.func247, Tryz.ntmps247
  go_wp2
  go_ret
  exact ⟨rfl, rfl⟩
def wsOfW (l : List (Nat × List Nat)) (h : ∀ x ∈ l, Sect x.2) : List W65 := l.attach.map fun y => ⟨y.1, h y.1 y.2⟩
theorem wsOfW_map (l : List (Nat × List Nat)) (h : ∀ x ∈ l, Sect x.2) : (wsOfW l h).map (fun y => y.1) = l := by
  unfold wsOfW
  rw [List.map_map]
  exact List.attach_map_subtype_val l
theorem wsOfW_len (l : List (Nat × List Nat)) (h : ∀ x ∈ l, Sect x.2) : (wsOfW l h).length = l.length := by simp [wsOfW]
theorem back_stops (n : Nat) (hn : 1 ≤ n) {W : World} {d g : Nat} {pv : Value} {m : DM} (h : PD W d g pv m) (hfew : m.waits.length ≤ 9000000000000000000) (Bs : Nat) (hBs : W.cell? ⟨Bs, 0, none⟩ = some pv) :
    SeqStopsK Fence.wide n Tryz.prog 276 #[.pointer (some ⟨Bs, 0, none⟩)] encW (Below W.heap.size)
      (fun ys : List WI => ys.map (fun p => p.2.1) = m.waits.reverse) (fun pre : List WI => ∃ k, pre.map (fun p => p.2.1) = m.waits.reverse.take k) m.waits.length W := fun l J Jx V hV _ _ hY h0 => by
  have hBl : Bs < W.heap.size := World.block_lt_of_cell? W _ hBs
  have hBs' := (hV.cell (p := ⟨Bs, 0, none⟩) hBl).trans hBs
  have hws : ∀ x ∈ m.waits, Sect x.2 := fun x hx => (h.ok.waits x hx).2
  have hmp := wsOfW_map m.waits hws
  have hml := wsOfW_len m.waits hws
  have conv : ∀ ys : List WI, ys.map (fun p => p.2.1) = (ys.map (fun p => p.2)).map (fun y => y.1) := fun ys => by rw [List.map_map]; rfl
  rcases h.pen.2 with ⟨e, hz⟩ | ⟨b, cap, cur, e, _, hg, _⟩
  · rw [e] at hBs'
    have hm0 : m.waits = [] := List.eq_nil_of_length_eq_zero hz
    exact (back1_nil_in Fence.wide n trivial rfl l Bs J V hBs' h0).mono fun e W' ⟨he, hj⟩ => ⟨he, .inl ⟨[], by rw [hm0]; rfl, hj⟩⟩
  · rw [e, ← hml] at hBs'
    have hb : b < W.heap.size := (Array.getElem?_eq_some_iff.1 hg).1
    refine (back1_in Fence.wide n trivial rfl hn l Bs W.heap.size b cap (wsOfW m.waits hws) (by rw [hml]; exact hfew) hb hBl J Jx (fun pre x W' hj hlt => hY pre x W' hj (by rw [← hml]; exact hlt)) V hBs' (fun j x hx => ?_) h0).mono ?_
    · have hx2 : m.waits[j]? = some x.1 := by
        rw [← hmp, List.getElem?_map, hx]
        rfl
      obtain ⟨b', c', e2, hr⟩ := h.pen_at hx2
      rw [e] at e2
      injection e2 with e3 _ _
      injection e3 with e3
      injection e3 with e3
      subst e3
      intro i v hv
      exact (hV.cell (p := ⟨b, j * 65 + i, none⟩) hb).trans (hr i v hv)
    · rintro e W' ⟨he, ⟨ys, hys, hj⟩ | ⟨pre, ⟨k, hk⟩, hj⟩⟩
      · exact ⟨he, .inl ⟨ys, (conv ys).trans (by rw [hys, List.map_reverse, hmp]), hj⟩⟩
      · exact ⟨he, .inr ⟨pre, ⟨k, (conv pre).trans (by rw [hk, lastK, List.map_take, List.map_reverse, hmp])⟩, hj⟩⟩
end
section
open Go Go.RowKit Go.Shelf
attribute [local go_sem] Oper.semAt_some
theorem calls_marks {f : FuncId} {fn : Func} {c : Code} {args : Array Value} {w : World} {R : Ending → World → Prop} (hf : Tryz.prog.funcs[f]? = some fn) (hb : fn.body = some c)
    (h : c.wp Tryz.prog (bodyPostM Fence.wide 9 Tryz.prog fn R) { tmps := args ++ Array.replicate (fn.ntmps - args.size) undef, defers := [] } w) : Calls Tryz.prog f args w R :=
  (callsIn_wide (n := 9)).1 (callsIn_of_wp_marks hf hb trivial (wpIn_wide.2 h) rfl)
theorem retM0 {fn : Func} {R : Ending → World → Prop} {a : Act} {w : World} {v : Value} (hd : a.defers = []) (hr : (results fn a.tmps).run Tryz.prog w = .ok v w) (hR : R (.returned v) w) : bodyPostM Fence.wide 9 Tryz.prog fn R .ret a w := by
  show LeavesInM Fence.wide 9 Tryz.prog fn a.tmps R a.defers .returning w
  rw [hd]
  exact ⟨v, hr, hR⟩
theorem retM1 {fn : Func} {R : Ending → World → Prop} {a : Act} {w : World} {v : Value} {D : Nat} (hd : a.defers = [{ target := .collected D, args := #[] }]) (hK : w.heap[D]? = some (.deferred (some [])))
    (hr : (results fn a.tmps).run Tryz.prog (w.putObj D (.deferred none)) = .ok v (w.putObj D (.deferred none))) (hR : R (.returned v) (w.putObj D (.deferred none))) : bodyPostM Fence.wide 9 Tryz.prog fn R .ret a w := by
  show LeavesInM Fence.wide 9 Tryz.prog fn a.tmps R a.defers .returning w
  rw [hd]
  exact ⟨by simp, .inl ⟨_, _, rfl, run_takeDeferred hK, v, hr, hR⟩⟩
theorem agg_con (w : World) : (isAgg 189).run Tryz.prog w = .ok true w := by
  unfold isAgg
  rw [Sem.run_bind, run_underlying Tryz.underlying189 w]
  rfl
theorem size_con : ∃ N, N = 64 ∧ ∀ w, (sizeOf 189).run Tryz.prog w = .ok N w := ⟨64, rfl, fun w => by
  have h := sz_con
  cases hq : Tryz.prog.info? 189 with
  | none => simp [hq] at h
  | some i => simp [hq] at h; simp [sizeOf, typeInfo, hq, h]⟩
theorem lastW_find (l : List (Nat × List Nat)) (s : Nat) : lastW l s = (l.reverse.find? (fun x => decide (x.1 = s))).map (fun x => x.2) := by
  induction l with
  | nil => rfl
  | cons x l ih =>
    show (lastW l s).or (if x.1 = s then some x.2 else none) = _
    rw [List.reverse_cons, List.find?_append, ih]
    cases h : l.reverse.find? (fun x => decide (x.1 = s)) with
    | some y => rfl
    | none =>
      by_cases hx : x.1 = s <;> simp [hx]
theorem lastW_stop {l : List (Nat × List Nat)} {ini : List WI} {x : WI} {s j : Nat} (h : (ini ++ [x]).map (fun p => p.2.1) = l.reverse.take j) (h2 : ∀ y ∈ ini, y.2.1.1 ≠ s) (h3 : x.2.1.1 = s) : lastW l s = some x.2.1.2 := by
  rw [lastW_find, ← List.take_append_drop j l.reverse, ← h, List.map_append, List.find?_append, List.find?_append]
  have e : (ini.map fun p => p.2.1).find? (fun x => decide (x.1 = s)) = none := by
    rw [List.find?_eq_none]
    intro y hy
    obtain ⟨z, hz, rfl⟩ := List.mem_map.1 hy
    simpa using h2 z hz
  rw [e]
  simp [h3]
theorem lastW_done {l : List (Nat × List Nat)} {ys : List WI} {s : Nat} (h : ys.map (fun p => p.2.1) = l.reverse) (h2 : ∀ y ∈ ys, y.2.1.1 ≠ s) : lastW l s = none := by
  rw [lastW_find, ← h]
  have e : (ys.map fun p => p.2.1).find? (fun x => decide (x.1 = s)) = none := by
    rw [List.find?_eq_none]
    intro y hy
    obtain ⟨z, hz, rfl⟩ := List.mem_map.1 hy
    simpa using h2 z hz
  rw [e]
  rfl
theorem rd_ret {b : Nat} {W : World} {a : Act} {D : Nat} {A : Option Addr} {n : Nat} {E : Int} {R : Ending → World → Prop} (h4 : a.tmps.getD 4 undef = .pointer (some ⟨b + 1, 0, none⟩)) (h5 : a.tmps.getD 5 undef = .pointer (some ⟨b + 1 + 1, 0, none⟩))
    (hd : a.defers = [{ target := .collected D, args := #[] }]) (hK : W.heap[D]? = some (.deferred (some []))) (c1 : W.cell? ⟨b + 1, 0, none⟩ = some (.slice A n n)) (c2 : W.cell? ⟨b + 1 + 1, 0, none⟩ = some (.int .i64 E))
    (hR : R (.returned (.tuple #[.slice A n n, .int .i64 E])) (W.putObj D (.deferred none))) : bodyPostM Fence.wide 9 Tryz.prog Tryz.f206 R .ret a W := by
  refine retM1 (v := .tuple #[.slice A n n, .int .i64 E]) hd hK ?_ hR
  have k1 := cell_kept c1 (grownBy_putObj' _ D (.deferred none)) (fun r e => by cases e; exact ⟨_, hK, rfl⟩)
  have k2 := cell_kept c2 (grownBy_putObj' _ D (.deferred none)) (fun r e => by cases e; exact ⟨_, hK, rfl⟩)
  have h4' : a.tmps[4]?.getD undef = .pointer (some ⟨b + 1, 0, none⟩) := by simpa using h4
  have h5' : a.tmps[5]?.getD undef = .pointer (some ⟨b + 1 + 1, 0, none⟩) := by simpa using h5
  simp [results, Tryz.results206, go_sem, h4', h5', k1, k2]
theorem ext_put {w W : World} {D : Nat} (h : Ext w W) (hD : w.heap.size ≤ D) (hK : W.heap[D]? = some (.deferred (some []))) : Ext w (W.putObj D (.deferred none)) :=
  Below.trans h (belowK_b (w := w) (Nat.le_refl _) W D _ _ hD hK rfl rfl)
theorem read_up {m : DM} (s : Int) (h : m.up = false) : m.read s = ([], 5) := by unfold DM.read; rw [if_pos h]
theorem read_out {m : DM} (s : Int) (h : ¬ m.up = false) (h2 : m.has s = false) : m.read s = ([], 2) := by unfold DM.read; rw [if_neg h, if_pos h2]
theorem read_pen {m : DM} (k : Nat) (h : ¬ m.up = false) (h2 : ¬ m.has (k : Int) = false) {b : List Nat} (h3 : lastW m.waits k = some b) : m.read (k : Int) = (b, 0) := by
  unfold DM.read
  rw [if_neg h, if_neg h2, Int.toNat_natCast, h3]
theorem read_rest {m : DM} (k : Nat) (h : ¬ m.up = false) (h2 : ¬ m.has (k : Int) = false) (h3 : lastW m.waits k = none) : m.read (k : Int) = if m.lost.getD k false = true then ([], 50) else (m.rest.getD k [], 0) := by
  unfold DM.read
  rw [if_neg h, if_neg h2, Int.toNat_natCast, h3]
def rdW (w : World) (s : Int) : World := (((w.alloc (.cells #[.int .i64 s] 3)).alloc (.cells #[.slice none 0 0] 45)).alloc (.cells #[.int .i64 0] 25)).alloc (.cells #[.int .i64 s] 3)
theorem rd_ext (w : World) (s : Int) : Ext w (rdW w s) := ((((Ext.refl w).alloc _).alloc _).alloc _).alloc _
theorem rd_run {w : World} {d g : Nat} {pv : Value} {m : DM} (h : PD w d g pv m) (s : Int) :
    Calls Tryz.prog 114 #[.pointer (some ⟨d, 0, none⟩), .slice (some ⟨w.heap.size + 1 + 1 + 1, 0, none⟩) 1 1] (rdW w s) fun e w' => e = .returned (.int .i64 (if m.up = false then 5 else if m.has s = false then 2 else 0)) ∧ rdW w s = w' := by
  have hz := ZsAt.one (((w.alloc (.cells #[.int .i64 s] 3)).alloc (.cells #[.slice none 0 0] 45)).alloc (.cells #[.int .i64 0] 25)) s 3
  simp only [World.size_alloc] at hz
  have hk := running_of (h.ext (rd_ext w s)) _ 1 1 [s] hz
  rwa [show runE m [s] = if m.up = false then 5 else if m.has s = false then 2 else 0 by unfold runE; rw [known_one]] at hk
set_option maxHeartbeats 4000000 in
theorem read_err {w : World} {d g : Nat} {pv : Value} {m : DM} (h : PD w d g pv m) (s : Int) (E : Int) (hE : E ≠ 0) (hr : m.read s = ([], E)) (hrun : (if m.up = false then 5 else if m.has s = false then 2 else 0) = E) :
    Calls Tryz.prog 206 #[.pointer (some ⟨d, 0, none⟩), .int .i64 s] w fun e w' => ∃ A n, e = .returned (.tuple #[.slice A n n, .int .i64 (m.read s).2]) ∧ New w.heap.size w' A n (m.read s).1 ∧ Ext w w' := by
  have hk := rd_run h s
  rw [hrun] at hk
  have HK := Lib.hid hk
  have HR := Lib.hid hr
  have hne : (E != 0) = true := by simpa using hE
  unfold rdW at HK
  clear h hk hr hrun hE
  refine calls_marks Tryz.func206 rfl ?_
  simp only [Tryz.ntmps206, List.size_toArray, List.length_cons, List.length_nil, Nat.reduceAdd, Nat.reduceSub, Array.replicate_succ, Array.replicate_zero, List.push_toArray, List.append_toArray, List.nil_append, List.cons_append]
  go_wp2_with fail
  refine HK.out.mono ?_
  rintro e w1 ⟨rfl, rfl⟩
  go_wp2_with fail
  refine retM0 (v := .tuple #[.slice none 0 0, .int .i64 E]) rfl ?_ ?_
  · simp [results, Tryz.results206, go_sem]
  · exact ⟨none, 0, by rw [HR.out], by rw [HR.out]; exact New.none_ _ _, ((((Ext.refl w).alloc _).alloc _).alloc _).alloc _⟩
set_option maxHeartbeats 4000000 in
theorem read_ok {w : World} {d g : Nat} {pv : Value} {m : DM} (h : PD w d g pv m) (k : Nat) (hfew : m.waits.length ≤ 1000000) (hu : ¬ m.up = false) (hh : ¬ m.has (k : Int) = false) :
    Calls Tryz.prog 206 #[.pointer (some ⟨d, 0, none⟩), .int .i64 (k : Int)] w fun e w' => ∃ A n, e = .returned (.tuple #[.slice A n n, .int .i64 (m.read (k : Int)).2]) ∧ New w.heap.size w' A n (m.read (k : Int)).1 ∧ Ext w w' := by
  have hk := rd_run h (k : Int)
  rw [if_neg hu, if_neg hh] at hk
  have HK := Lib.hid hk
  have H := Lib.hid h
  have HU := Lib.hid hu
  have HH := Lib.hid hh
  unfold rdW at HK
  have b0 : (rdW w (k : Int)).cell? ⟨w.heap.size, 0, none⟩ = some (.int .i64 (k : Int)) := by
    unfold rdW
    simp [go_sem]
  have b1 : (rdW w (k : Int)).heap[w.heap.size + 1]? = some (.cells #[.slice none 0 0] 45 (0, 0)) := by
    have h0 := heap_alloc_last (w.alloc (.cells #[.int .i64 (k : Int)] 3)) (.cells #[.slice none 0 0] 45)
    rw [World.size_alloc] at h0
    exact (Below.heap_alloc _ _ _ (by simp)).trans ((Below.heap_alloc _ _ _ (by simp)).trans h0)
  have b2 : (rdW w (k : Int)).heap[w.heap.size + 1 + 1]? = some (.cells #[.int .i64 0] 25 (0, 0)) := by
    have h0 := heap_alloc_last ((w.alloc (.cells #[.int .i64 (k : Int)] 3)).alloc (.cells #[.slice none 0 0] 45)) (.cells #[.int .i64 0] 25)
    rw [World.size_alloc, World.size_alloc] at h0
    exact (Below.heap_alloc _ _ _ (by simp)).trans h0
  have hX := rd_ext w (k : Int)
  have h1 := h.ext hX
  obtain ⟨⟨_, _, _, _, c4⟩, _⟩ := h1.cells
  obtain ⟨A, c, hpv, _, _⟩ := h.pv_form
  subst hpv
  have HB0 := Lib.hid b0
  have HB1 := Lib.hid b1
  have HB2 := Lib.hid b2
  have HX := Lib.hid hX
  have H1 := Lib.hid h1
  have hsz1 : w.heap.size + 1 + 1 + 1 < (rdW w (k : Int)).heap.size := by unfold rdW; simp
  clear h hk hu hh b0 b1 b2 hX h1
  unfold rdW at *
  refine calls_marks Tryz.func206 rfl ?_
  simp only [Tryz.ntmps206, List.size_toArray, List.length_cons, List.length_nil, Nat.reduceAdd, Nat.reduceSub, Array.replicate_succ, Array.replicate_zero, List.push_toArray, List.append_toArray, List.nil_append, List.cons_append]
  go_wp2_with fail
  refine HK.out.mono ?_
  rintro e w1 ⟨rfl, rfl⟩
  generalize (((w.alloc (.cells #[.int .i64 (k : Int)] 3)).alloc (.cells #[.slice none 0 0] 45)).alloc (.cells #[.int .i64 0] 25)).alloc (.cells #[.int .i64 (k : Int)] 3) = W1 at *
  go_wp2_with fail
  refine (back_in A m.waits.length c _).mono ?_
  rintro e w2 ⟨rfl, rfl⟩
  go_wp2_with fail
  have hBs0 : (W1.alloc (.cells #[.slice A m.waits.length c] 118)).cell? ⟨W1.heap.size, 0, none⟩ = some (.slice A m.waits.length c) := by rw [World.cell?_alloc_new]; rfl
  have hE2 := (Ext.refl W1).alloc (.cells #[.slice A m.waits.length c] 118)
  have HE2 := Lib.hid hE2
  have HX2 := Lib.hid (HX.out.trans hE2)
  have H2 := Lib.hid (H1.out.ext hE2)
  have e0 : Hid ((W1.alloc (.cells #[.slice A m.waits.length c] 118)).cell? ⟨w.heap.size, 0, none⟩ = some (.int .i64 (k : Int))) := Lib.hid ((hE2.cell (p := ⟨w.heap.size, 0, none⟩) (show w.heap.size < W1.heap.size by omega)).trans HB0.out)
  have e1 : Hid ((W1.alloc (.cells #[.slice A m.waits.length c] 118)).heap[w.heap.size + 1]? = some (.cells #[.slice none 0 0] 45 (0, 0))) := Lib.hid ((hE2.block _ (by omega)).trans HB1.out)
  have e2 : Hid ((W1.alloc (.cells #[.slice A m.waits.length c] 118)).heap[w.heap.size + 1 + 1]? = some (.cells #[.int .i64 0] 25 (0, 0))) := Lib.hid ((hE2.block _ (by omega)).trans HB2.out)
  have hsz2 : w.heap.size + 1 + 1 + 1 < (W1.alloc (.cells #[.slice A m.waits.length c] 118)).heap.size := Nat.lt_of_lt_of_le hsz1 hE2.size
  generalize W1.alloc (.cells #[.slice A m.waits.length c] 118) = W2 at *
  clear HK HB0 HB1 HB2 HX H1 hsz1 HE2 hE2 c4
  have hsz0 : w.heap.size ≤ W2.heap.size := by omega
  obtain ⟨N, hN, hsz⟩ := size_wri
  have HN := Lib.hid hN
  have hag := agg_wri
  have hzv := zv_wri
  clear hN
  refine (wpIn_wide (n := 9)).1 ?_
  refine wpIn_rangeFunc_ownH (F := Fence.wide) (n := 9) rfl (by omega) (gf := 276) (lb := #[.pointer (some ⟨W1.heap.size, 0, none⟩)]) rfl trivial (enters_of Tryz.func276 (by kernel_rfl) rfl)
    (back_stops 8 (by omega) H2.out (by omega) W1.heap.size hBs0) (fun h k => Below.trans h k) (belowK_b (Nat.le_refl _)) (Below.refl _ _) (fun _ => rfl)
    (fun pre W => (∀ x ∈ pre, x.2.1.1 ≠ k) ∧ Below W2.heap.size W2 W)
    (fun cd pre W => (cd = .ret ∧ ∃ (ini : List WI) (x : WI) (gb : Nat), pre = ini ++ [x] ∧ (∀ y ∈ ini, y.2.1.1 ≠ k) ∧ x.2.1.1 = k ∧ w.heap.size ≤ gb ∧ W.cell? ⟨w.heap.size + 1, 0, none⟩ = some (.slice (some ⟨gb, 0, none⟩) 64 64) ∧ W.cell? ⟨w.heap.size + 1 + 1, 0, none⟩ = some (.int .i64 0) ∧ W.heap[gb]? = some (.cells (vb x.2.1.2).toArray 189 (0, 0))) ∧ Below w.heap.size w W)
    (OwnFrom.and (ownFrom_pure _ _) (ownFrom_below (Nat.le_refl _) (Nat.le_refl _)))
    (fun cd => OwnFrom.and (fun s X Y row hs hg hrow => by
      obtain ⟨h0, ini, x, gb, h1, h2, h3, h4, h5, h6, h7⟩ := hs
      refine ⟨h0, ini, x, gb, h1, h2, h3, h4, cell_kept h5 hg (fun r e => (hrow r e).2), cell_kept h6 hg (fun r e => (hrow r e).2), ?_⟩
      refine (hg.block gb (Array.getElem?_eq_some_iff.1 h7).1 (fun e => ?_)).trans h7
      obtain ⟨_, o, ho, hoc⟩ := hrow gb e.symm
      rw [h7] at ho
      injection ho with ho
      subst ho
      cases hoc) (ownFrom_below (Nat.le_refl _) hsz0))
    ⟨by simp, Below.refl _ _⟩
    (fun x a' W => ∃ Bx, W2.heap.size ≤ Bx ∧ W.heap[Bx]? = some (.cells (wriC x.2.1).toArray 191 (0, 0)) ∧ a' = { tmps := #[.pointer (some ⟨d, 0, none⟩), .int .i64 (k : Int), undef, .pointer (some ⟨w.heap.size, 0, none⟩), .pointer (some ⟨w.heap.size + 1, 0, none⟩), .pointer (some ⟨w.heap.size + 1 + 1, 0, none⟩), .int .i64 0, undef, .pointer (some ⟨Bx, 0, none⟩), undef, .pointer (some ⟨d, 0, none⟩), .int .i64 (k : Int), .slice (some ⟨w.heap.size + 1 + 1 + 1, 0, none⟩) 1 1, .int .i64 0, .int .i64 0, .bool false, undef, .pointer (some ⟨d, 0, none⟩), .pointer (some ⟨d, 0, none⟩), .pointer (some ⟨d, 4, none⟩), .slice A m.waits.length c, .func (.func 276) #[] #[.pointer (some ⟨W1.heap.size, 0, none⟩)], .int .i64 x.1, .agg (wriC x.2.1).toArray, undef, undef, undef, undef, undef, undef, undef, undef, undef, undef, undef, undef, undef, undef, undef, undef, undef, undef, undef], defers := [] })
    (fun x a' => fun s X Y row hs hg hrow => by
      obtain ⟨Bx, h1, h2, h3⟩ := hs
      refine ⟨Bx, h1, ?_, h3⟩
      refine (hg.block Bx (Array.getElem?_eq_some_iff.1 h2).1 (fun e => ?_)).trans h2
      obtain ⟨_, o, ho, hoc⟩ := hrow Bx e.symm
      rw [h2] at ho
      injection ho with ho
      subst ho
      cases hoc) ?assign ?body ?done ?stop
  case assign =>
    rintro l pre x W K ⟨hi, hB⟩ hK
    have hl65 : (wriC x.2.1).length = N := by rw [HN.out]; exact wriC_len x.2.2.1
    have hst := scs W 191 zWri (wriC x.2.1) (by rw [zWri_size, hl65, HN.out]) (wriC_one _)
    have HI := Lib.hid hi
    have HBB := Lib.hid hB
    clear hi hB
    dsimp only [encW]
    gi_wp2
    exact hK _ _ ((KeepsOthers.alloc _ _).from _) ((Below.refl _ W).alloc HBB.out.size _) ⟨HI.out, HBB.out.alloc HBB.out.size _⟩ ⟨W.heap.size, HBB.out.size, heap_alloc_new W _, rfl⟩
  case body =>
    rintro l pre x a' W hl hr ⟨hne, hB⟩ ⟨Bx, hBx, bX, rfl⟩ _
    have hb0 := (hB.cell (p := ⟨w.heap.size, 0, none⟩) (show w.heap.size < W2.heap.size by omega)).trans e0.out
    have hb1 : W.heap[w.heap.size + 1]? = some (.cells #[.slice none 0 0] 45 (0, 0)) := (hB.block _ (by omega)).trans e1.out
    have hb2 : W.heap[w.heap.size + 1 + 1]? = some (.cells #[.int .i64 0] 25 (0, 0)) := (hB.block _ (by omega)).trans e2.out
    have hc64 : W.cell? ⟨Bx, 64, none⟩ = some (.int .i64 (x.2.1.1 : Int)) := by
      rw [cell_of_row W Bx 64 _ _ _ bX, List.getElem?_toArray, wri_64 x.2.2.1]
    by_cases hxk : x.2.1.1 = k
    · have heq : ((x.2.1.1 : Int) == (k : Int)) = true := by rw [beq_iff_eq, hxk]
      obtain ⟨N4, hN4, hs4⟩ := size_con
      have hag4 := agg_con
      have hN40 : ¬ N4 = 0 := by omega
      have hbl : (vb x.2.1.2).length = N4 := by rw [hN4, vb_length]; exact x.2.2.1
      have hrg : W.rangeAt Bx 0 (vb x.2.1.2) := by
        have := World.rangeAt_of_block bX 0 64
        rwa [show ((wriC x.2.1).toArray.extract 0 (0 + 64)).toList = vb x.2.1.2 by simp [wriC, vb_length, x.2.2.1]] at this
      have hld4 : (loadCellsFrom ⟨Bx, 0, none⟩ 0 N4 #[]).run Tryz.prog W = .ok (vb x.2.1.2).toArray W := lcf W Bx 0 N4 _ hbl hrg
      have hc1 : W.cell? ⟨w.heap.size + 1, 0, none⟩ = some (.slice none 0 0) := cell_of_row W _ 0 _ _ _ hb1
      have hf1 : W.frozen? ⟨w.heap.size + 1, 0, none⟩ = false := frozen_of_row W _ 0 _ _ hb1
      have hc2 : W.cell? ⟨w.heap.size + 1 + 1, 0, none⟩ = some (.int .i64 0) := cell_of_row W _ 0 _ _ _ hb2
      have hf2 : W.frozen? ⟨w.heap.size + 1 + 1, 0, none⟩ = false := frozen_of_row W _ 0 _ _ hb2
      have hl1 : w.heap.size + 1 < W.heap.size := Nat.lt_of_lt_of_le (by omega) hB.size
      have hl2 : w.heap.size + 1 + 1 < W.heap.size := Nat.lt_of_lt_of_le (by omega) hB.size
      have HNE := Lib.hid hne
      have HB := Lib.hid hB
      have HXK := Lib.hid hxk
      have HTL := Lib.hid (told_of x.2.1.2 W)
      have HB1 := Lib.hid hb1
      have HB2 := Lib.hid hb2
      have h7 : 1 ≤ 9 - 1 - 1 := by omega
      clear hN4 hbl hrg hne hB hxk bX hb1 hb2 hl hr
      gi_wp2_with (refine ⟨trivial, ?_⟩; gi_at_call 248; refine (CallsIn.inRound l (callsIn_wide.2 HTL.out)).mono ?_; rintro e W3 ⟨rfl, rfl⟩)
      refine ⟨(((KeepsOthers.setCell _ _ _).trans (KeepsOthers.setCell _ _ _)).trans (KeepsOthers.alloc _ _)).from _, ⟨rfl, pre, x, W.heap.size, rfl, HNE.out, HXK.out, ?_, ?_, ?_, ?_⟩, ?_⟩
      · exact Nat.le_trans hsz0 HB.out.size
      · rw [World.cell?_alloc_past _ _ _ (by simp; omega), World.cell?_setCell_far _ _ _ _ (by simp)]
        exact cell_of_row _ _ 0 _ _ _ (row_set 0 HB1.out _ rfl)
      · rw [World.cell?_alloc_past _ _ _ (by simp; omega)]
        exact cell_of_row _ _ 0 _ _ _ (row_set 0 (heap_set (by omega) HB2.out) _ rfl)
      · have := heap_alloc_last ((W.setCell ⟨w.heap.size + 1, 0, none⟩ (.slice (some ⟨W.heap.size, 0, none⟩) 64 64)).setCell ⟨w.heap.size + 1 + 1, 0, none⟩ (.int .i64 0)) (.cells (vb x.2.1.2).toArray 189)
        simpa using this
      · have hb := (Below.trans HX2.out (HB.out.mono hsz0))
        have hb2 := ((hb.setCell (p := ⟨w.heap.size + 1, 0, none⟩) (show w.heap.size ≤ w.heap.size + 1 by omega) (.slice (some ⟨W.heap.size, 0, none⟩) 64 64)).setCell (p := ⟨w.heap.size + 1 + 1, 0, none⟩) (show w.heap.size ≤ w.heap.size + 1 + 1 by omega) (.int .i64 0))
        exact hb2.alloc hb2.size _
    · have heq : ((x.2.1.1 : Int) == (k : Int)) = false := by
        rw [beq_eq_false_iff_ne]
        intro hc
        exact hxk (Int.ofNat.inj hc)
      have HNE := Lib.hid hne
      have HB := Lib.hid hB
      have HXK := Lib.hid hxk
      clear hne hB hxk bX hb1 hb2 hl hr
      gi_wp2
      exact ⟨KeepsFrom.refl _ _, Below.refl _ _, fun y hy => by
        rcases List.mem_append.1 hy with hy | hy
        · exact HNE.out y hy
        · simp only [List.mem_singleton] at hy
          subst hy
          exact HXK.out, HB.out⟩
  case done =>
    rintro D ys W hD hys ⟨hne, hB⟩ hK
    have hlw := lastW_done hys hne
    have HRD := Lib.hid (read_rest k HU.out HH.out hlw)
    clear hys hne hlw hsz hag hzv HN
    have H3 := Lib.hid (H2.out.mod (F := fun i => W2.heap.size ≤ i) ⟨hB.os, hB.tape, hB.output, hB.size, fun i hi _ => hB.block i hi⟩ fun i hi hle => by
      rcases hi with rfl | rfl | hi
      · exact absurd H2.out.lt (by omega)
      · exact absurd H2.out.glt (by omega)
      · exact absurd (H2.out.pen.lt i hi).2 (by omega))
    have hb0 := (hB.cell (p := ⟨w.heap.size, 0, none⟩) (show w.heap.size < W2.heap.size by omega)).trans e0.out
    have hb1 := (hB.block _ (show w.heap.size + 1 < W2.heap.size by omega)).trans e1.out
    have hb2 := (hB.block _ (show w.heap.size + 1 + 1 < W2.heap.size by omega)).trans e2.out
    have hX := (Below.trans HX2.out (hB.mono hsz0))
    have hDW : D < W.heap.size := (Array.getElem?_eq_some_iff.1 hK).1
    have hhas : m.has (k : Int) = true := by
      have := HH.out
      simpa using this
    obtain ⟨_, hs1⟩ := DM.has_iff.1 hhas
    have hks : k < m.size := by omega
    have hl1 : w.heap.size + 1 + 1 < W.heap.size := Nat.lt_of_lt_of_le (by omega) hB.size
    clear hB e0 e1 e2 hhas hBs0 HX2 H2
    go_wp2_with fail
    obtain ⟨⟨_, _, _, c3, _⟩, _⟩ := H3.out.cells
    obtain ⟨N, hN, hsz⟩ := size_med
    have HN := Lib.hid hN
    have hag := agg_med
    have hzv := zv_med
    have hlen : (m.sec k).length = N := by rw [hN]; exact H3.out.ok.sec_len hks
    have hr : W.rangeAt g (k * N) (m.sec k) := by rw [hN]; exact H3.out.med.range hks
    have hld : ∀ w', World.rangeAt w' g (k * N) (m.sec k) → (loadCellsFrom ⟨g, k * N, none⟩ 0 N #[]).run Tryz.prog w' = .ok (m.sec k).toArray w' := fun w' h => lcf w' g _ N _ hlen h
    have hst : (storeCells ⟨W.heap.size, 0, none⟩ (m.sec k) 0).run Tryz.prog (W.alloc (.cells zMed 207)).drew = .ok () (W.alloc (.cells (m.sec k).toArray 207)).drew := scs W.drew 207 zMed (m.sec k) (by rw [zMed_size, hlen, hN]) (secC_one _ _ _)
    have hS0 : (W.drew.cell? ⟨d, 3, none⟩ = some (.slice (some ⟨g, 0, none⟩) m.size m.size) ∧ W.drew.cell? ⟨w.heap.size, 0, none⟩ = some (.int .i64 (k : Int)) ∧ W.drew.rangeAt g (k * N) (m.sec k)) := ⟨c3, hb0, hr⟩
    have hSa : ∀ o : Obj, ((W.alloc o).drew.cell? ⟨d, 3, none⟩ = some (.slice (some ⟨g, 0, none⟩) m.size m.size) ∧ (W.alloc o).drew.cell? ⟨w.heap.size, 0, none⟩ = some (.int .i64 (k : Int)) ∧ (W.alloc o).drew.rangeAt g (k * N) (m.sec k)) := fun o =>
      ⟨(H3.out.ext (((Ext.refl W).alloc o).drew)).cells.1.2.2.2.1, ((Ext.refl W).alloc o).drew.cell (p := ⟨w.heap.size, 0, none⟩) (show w.heap.size < W.heap.size by omega) |>.trans hb0, World.rangeAt_alloc hr _⟩
    clear hN hr c3
    go_region_held3 (fun w' => w'.cell? ⟨d, 3, none⟩ = some (.slice (some ⟨g, 0, none⟩) m.size m.size) ∧ w'.cell? ⟨w.heap.size, 0, none⟩ = some (.int .i64 (k : Int)) ∧ w'.rangeAt g (k * N) (m.sec k))
      (first | with_reducible exact hS0 | with_reducible exact hSa _)
      (fail)
    have hN := HN.out
    subst hN
    clear hS0 hSa hst hld hag hzv hsz hlen HN
    have hE := ((Ext.refl W).alloc (.cells (m.sec k).toArray 207)).drew
    have hrn : (W.alloc (.cells (m.sec k).toArray 207)).drew.rangeAt W.heap.size 0 (vb (m.rest.getD k [])) := range_new W _ _ [] _ _ (sec_cut m k) 0 rfl
    have hc128 : (W.alloc (.cells (m.sec k).toArray 207)).drew.cell? ⟨W.heap.size, 128, none⟩ = some (.bool (m.lost.getD k false)) := by
      rw [show (W.alloc (.cells (m.sec k).toArray 207)).drew.cell? ⟨W.heap.size, 128, none⟩ = (W.alloc (.cells (m.sec k).toArray 207)).cell? ⟨W.heap.size, 128, none⟩ from rfl, World.cell?_alloc_new, List.getElem?_toArray, sec_lost H3.out.ok hks]
    have q1 := (hE.block _ (show w.heap.size + 1 < W.heap.size by omega)).trans hb1
    have q2 := (hE.block _ (show w.heap.size + 1 + 1 < W.heap.size by omega)).trans hb2
    have qK := (hE.block _ hDW).trans hK
    have qX := Below.trans hX (hE.mono hX.size)
    have ql := Nat.lt_of_lt_of_le hl1 hE.size
    have HRS := Lib.hid (H3.out.ok.rest_at hks)
    have hDb : w.heap.size + 1 + 1 < D := by omega
    clear hE hb0 hb1 hb2 hK hDW hX hl1
    generalize (W.alloc (.cells (m.sec k).toArray 207)).drew = V at *
    have hc1 : V.cell? ⟨w.heap.size + 1, 0, none⟩ = some (.slice none 0 0) := cell_of_row V _ 0 _ _ _ q1
    have hf1 : V.frozen? ⟨w.heap.size + 1, 0, none⟩ = false := frozen_of_row V _ 0 _ _ q1
    have hc2 : V.cell? ⟨w.heap.size + 1 + 1, 0, none⟩ = some (.int .i64 0) := cell_of_row V _ 0 _ _ _ q2
    have hf2 : V.frozen? ⟨w.heap.size + 1 + 1, 0, none⟩ = false := frozen_of_row V _ 0 _ _ q2
    have hl1 : w.heap.size + 1 < V.heap.size := by omega
    have HQ1 := Lib.hid q1
    have HQ2 := Lib.hid q2
    have HQK := Lib.hid qK
    have HQX := Lib.hid qX
    have HRN := Lib.hid hrn
    have ends : ∀ (v1 v2 : Value), (((V.setCell ⟨w.heap.size + 1, 0, none⟩ v1).setCell ⟨w.heap.size + 1 + 1, 0, none⟩ v2).cell? ⟨w.heap.size + 1, 0, none⟩ = some v1 ∧ ((V.setCell ⟨w.heap.size + 1, 0, none⟩ v1).setCell ⟨w.heap.size + 1 + 1, 0, none⟩ v2).cell? ⟨w.heap.size + 1 + 1, 0, none⟩ = some v2) ∧
        ((V.setCell ⟨w.heap.size + 1, 0, none⟩ v1).setCell ⟨w.heap.size + 1 + 1, 0, none⟩ v2).heap[D]? = some (.deferred (some [])) ∧ Ext w ((V.setCell ⟨w.heap.size + 1, 0, none⟩ v1).setCell ⟨w.heap.size + 1 + 1, 0, none⟩ v2) := fun v1 v2 => by
      refine ⟨⟨?_, ?_⟩, ?_, ?_⟩
      · rw [World.cell?_setCell_far _ _ _ _ (by simp)]
        exact cell_of_row _ _ 0 _ _ _ (row_set 0 HQ1.out _ rfl)
      · exact cell_of_row _ _ 0 _ _ _ (row_set 0 (heap_set (by omega) HQ2.out) _ rfl)
      · exact heap_set (by omega) (heap_set (by omega) HQK.out)
      · exact (HQX.out.setCell (p := ⟨w.heap.size + 1, 0, none⟩) (show w.heap.size ≤ w.heap.size + 1 by omega) v1).setCell (p := ⟨w.heap.size + 1 + 1, 0, none⟩) (show w.heap.size ≤ w.heap.size + 1 + 1 by omega) v2
    have HEN := Lib.hid ends
    clear q1 q2 qK qX ends hrn
    by_cases hlost : m.lost.getD k false = true
    · rw [hlost] at hc128
      have HR2 : Hid (m.read (k : Int) = ([], 50)) := Lib.hid (by rw [HRD.out, if_pos hlost])
      clear hlost
      go_wp2_with fail
      obtain ⟨⟨z1, z2⟩, z3, z4⟩ := HEN.out (.slice none 0 0) (.int .i64 50)
      refine rd_ret rfl rfl rfl z3 z1 z2 ?_
      exact ⟨_, _, by rw [HR2.out], by rw [HR2.out]; exact New.none_ _ _, ext_put z4 (by omega) z3⟩
    · have hl0 : m.lost.getD k false = false := by simpa using hlost
      rw [hl0] at hc128
      have HR2 : Hid (m.read (k : Int) = (m.rest.getD k [], 0)) := Lib.hid (by rw [HRD.out, if_neg hlost])
      clear hlost hl0
      go_wp2_with (first
        | (refine wl_con rfl _ rfl W.heap.size 0 rfl _ HRN.out (by rw [vb_length]; exact HRS.out.1) ?_))
      refine (told_of _ _).mono ?_
      rintro e w5 ⟨rfl, rfl⟩
      go_wp2_with fail
      obtain ⟨⟨z1, z2⟩, z3, z4⟩ := HEN.out (.slice (some ⟨V.heap.size, 0, none⟩) 64 64) (.int .i64 0)
      have hXs : ((V.setCell ⟨w.heap.size + 1, 0, none⟩ (.slice (some ⟨V.heap.size, 0, none⟩) 64 64)).setCell ⟨w.heap.size + 1 + 1, 0, none⟩ (.int .i64 0)).heap.size = V.heap.size := by simp
      generalize ((V.setCell ⟨w.heap.size + 1, 0, none⟩ (.slice (some ⟨V.heap.size, 0, none⟩) 64 64)).setCell ⟨w.heap.size + 1 + 1, 0, none⟩ (.int .i64 0)) = X at *
      have hDX : D < X.heap.size := (Array.getElem?_eq_some_iff.1 z3).1
      have e := (Ext.refl X).alloc (.cells (vb (m.rest[k]?.getD [])).toArray 189)
      have z3' := (e.block D hDX).trans z3
      have hlast := heap_alloc_last X (.cells (vb (m.rest[k]?.getD [])).toArray 189)
      rw [hXs] at hlast
      have hrs : Sect (m.rest[k]?.getD []) := by
        have := HRS.out
        rwa [List.getD_eq_getElem?_getD] at this
      refine rd_ret rfl rfl rfl z3' ((e.cell (p := ⟨w.heap.size + 1, 0, none⟩) (show w.heap.size + 1 < X.heap.size by omega)).trans z1) ((e.cell (p := ⟨w.heap.size + 1 + 1, 0, none⟩) (show w.heap.size + 1 + 1 < X.heap.size by omega)).trans z2) ?_
      have hnew : New w.heap.size ((X.alloc (.cells (vb (m.rest[k]?.getD [])).toArray 189)).putObj D (.deferred none)) (some ⟨V.heap.size, 0, none⟩) 64 (m.rest[k]?.getD []) :=
        ⟨hrs.1, hrs.2, .inr ⟨_, _, rfl, by omega, (World.putObj_heap_other (by omega)).trans hlast⟩, Nat.le_refl _⟩
      exact ⟨_, _, by rw [HR2.out], by rw [HR2.out, List.getD_eq_getElem?_getD]; exact hnew, ext_put (Below.trans z4 (e.mono z4.size)) (by omega) z3'⟩
  case stop =>
    rintro D cd pre W hD ⟨j, hpre⟩ ⟨⟨rfl, ini, x, gb, rfl, h2, h3, h4, h5, h6, h7⟩, hB⟩ hK
    have HRD := Lib.hid (read_pen k HU.out HH.out (lastW_stop hpre h2 h3))
    clear hpre h2 h3 hsz hag hzv HN
    gi_wp2
    refine rd_ret rfl rfl rfl hK h5 h6 ?_
    have hne : gb ≠ D := by
      intro e
      rw [e, hK] at h7
      cases h7
    have hnew : New w.heap.size (W.putObj D (.deferred none)) (some ⟨gb, 0, none⟩) 64 x.2.1.2 := ⟨x.2.2.1, x.2.2.2, .inr ⟨gb, _, rfl, h4, (World.putObj_heap_other hne).trans h7⟩, Nat.le_refl _⟩
    exact ⟨_, _, by rw [HRD.out], by rw [HRD.out]; exact hnew, ext_put hB (Nat.le_trans hsz0 hD) hK⟩
theorem read_of {w : World} {d g : Nat} {pv : Value} {m : DM} (h : PD w d g pv m) (s : Int) (hfew : m.waits.length ≤ 1000000) :
    Calls Tryz.prog 206 #[.pointer (some ⟨d, 0, none⟩), .int .i64 s] w fun e w' => ∃ A n, e = .returned (.tuple #[.slice A n n, .int .i64 (m.read s).2]) ∧ New w.heap.size w' A n (m.read s).1 ∧ Ext w w' := by
  by_cases hu : m.up = false
  · exact read_err h s 5 (by omega) (read_up s hu) (by rw [if_pos hu])
  · by_cases hh : m.has s = false
    · exact read_err h s 2 (by omega) (read_out s hu hh) (by rw [if_neg hu, if_pos hh])
    · have hhas : m.has s = true := by simpa using hh
      obtain ⟨k, rfl⟩ := Int.eq_ofNat_of_zero_le (DM.has_iff.1 hhas).1
      exact read_ok h k hfew hu hh
end
end Go.Proofs.YtgcinagkbdcgiaaGreatDoor

/-
  The contracts of quorum's below, as an iterator, and of Members.
-/
import Derived.Test.YtmnldkfkcfnkdaaQuC
import Derived.RangeFuncNested
import Derived.RangeFuncBound
import Derived.RangeFuncCalls
import Derived.RangeFuncLeaves
import Derived.RangeFuncBox
import Derived.Maps.AppendAt
import Derived.Shelf.Abstract
import Derived.Shelf.RegionOpen
import Derived.WalkKit
import Derived.OwnWalkIn
import Derived.TacticsInMore
import Derived.LoopNIn
import Derived.LoopIn
import Derived.Deep.DeepCutAuto
namespace Go.Proofs.Ytmnldkfkcfnkdaa
set_option maxRecDepth 100000
open Go Go.RowKit Go.Shelf
attribute [local go_sem] Oper.semAt_some

theorem calls_marksQ {f : FuncId} {fn : Func} {c : Code} {args : Array Value} {w : World} {R : Ending → World → Prop} (hf : Try.prog.funcs[f]? = some fn) (hb : fn.body = some c)
    (h : c.wp Try.prog (bodyPostM Fence.wide 9 Try.prog fn R) { tmps := args ++ Array.replicate (fn.ntmps - args.size) undef, defers := [] } w) : Calls Try.prog f args w R :=
  (callsIn_wide (n := 9)).1 (callsIn_of_wp_marks hf hb trivial (wpIn_wide.2 h) rfl)
theorem retM1Q {fn : Func} {R : Ending → World → Prop} {a : Act} {w : World} {v : Value} {D : Nat} (hd : a.defers = [{ target := .collected D, args := #[] }]) (hK : w.heap[D]? = some (.deferred (some [])))
    (hr : (results fn a.tmps).run Try.prog (w.putObj D (.deferred none)) = .ok v (w.putObj D (.deferred none))) (hR : R (.returned v) (w.putObj D (.deferred none))) : bodyPostM Fence.wide 9 Try.prog fn R .ret a w := by
  show LeavesInM Fence.wide 9 Try.prog fn a.tmps R a.defers .returning w
  rw [hd]
  exact ⟨by simp, .inl ⟨_, _, rfl, run_takeDeferred hK, v, hr, hR⟩⟩
theorem grown_of_extQ {w w' : World} (h : Ext w w') : w.grownBy w' none := ⟨h.os, h.tape, h.output, h.size, fun k hk _ => h.block k hk⟩
theorem mod_cellQ {G : Nat → Prop} {w w' : World} (k : Mod G w w') {g i : Nat} {v : Value} (hg : ¬ G g) (h : w.cell? ⟨g, i, none⟩ = some v) : w'.cell? ⟨g, i, none⟩ = some v :=
  (World.cell?_of_block (a := ⟨g, i, none⟩) (k.block g (World.block_lt_of_cell? w _ h) hg)).trans h
theorem ext_of_cellQ {w w' : World} {g i : Nat} {v : Value} (h : Ext w w') (hc : w.cell? ⟨g, i, none⟩ = some v) : w'.cell? ⟨g, i, none⟩ = some v := (Below.cell h (p := ⟨g, i, none⟩) (World.block_lt_of_cell? w _ hc)).trans hc
theorem mod_putQ {G : Nat → Prop} {w W : World} (l : Nat) (o o' : Obj) (hG : ∀ k, w.heap.size ≤ k → G k) (hl : w.heap.size ≤ l) (_ : W.heap[l]? = some o) : Mod G W (W.putObj l o') :=
  (Mod.refl G W).grown (grownBy_putObj' W l o') (fun k e => by cases e; exact .inl (hG l hl))
theorem ext_putQ {w W : World} {D : Nat} (h : Ext w W) (hD : w.heap.size ≤ D) (hK : W.heap[D]? = some (.deferred (some []))) : Ext w (W.putObj D (.deferred none)) :=
  Below.trans h (belowK_b (w := w) (Nat.le_refl _) W D _ _ hD hK rfl rfl)
theorem row_setQ {w : World} {g t : Nat} {fr : Nat × Nat} {cs cs' : Array Value} (i : Nat) (h : w.heap[g]? = some (.cells cs t fr)) (x : Value) (e : cs.setIfInBounds i x = cs') : (w.setCell ⟨g, i, none⟩ x).heap[g]? = some (.cells cs' t fr) := by
  subst e
  rw [setCell_eq_setRow w g i cs t fr x h]
  exact setRow_heap w g _ _ _ _ h
theorem int_infoQ : (Try.prog.info? 3).map (fun i => (i.zero, i.size, i.bytes)) = some (some (.int .i64 0), 1, 8) := by kernel_rfl
def encQ (k : Nat) : Array Value := #[.int .i64 (k : Int)]
/-- One more in a row of the call's own, whose slice lies in a box beside what the row's base keeps. -/
theorem appendQ {W w1 : World} {B base : Nat} {t e : TypeId} {size : Nat} {v v' : Value} {k m : Nat} {xs ys : List Value} {tmp : Obj} (hv : Boxed W B t v) (hte : t ≠ e) (hrow : W.ownsRow base e size v k xs) (hb : base ≤ W.heap.size) (hBb : B ≤ base)
    (hown' : w1.ownsRow base e size v' m ys) (hgrow : (W.alloc tmp).grownBy w1 v.ownBlock) :
    Boxed w1 B t v ∧ Boxed (w1.setCell ⟨B, 0, none⟩ v') B t v' ∧ (w1.setCell ⟨B, 0, none⟩ v').ownsRow base e size v' m ys ∧ KeepsOthers W (w1.setCell ⟨B, 0, none⟩ v') ∧ Below B W (w1.setCell ⟨B, 0, none⟩ v') ∧ Mod (fun k => k = B ∨ base ≤ k) W (w1.setCell ⟨B, 0, none⟩ v') := by
  have low : ∀ {w : World} {v : Value} {n : Nat} {xs : List Value}, w.ownsRow base e size v n xs → w.ownsRow B e size v n xs := fun {w v n xs} h => by
    refine ⟨h.1, ?_⟩
    rcases h.2 with h0 | ⟨g, cap, cur, h1, h2, h3⟩
    · exact .inl h0
    · exact .inr ⟨g, cap, cur, h1, Nat.le_trans hBb h2, h3⟩
  obtain ⟨h1, h2, _, h4, h5⟩ := hv.appended hte (low hrow) (by omega) (Nat.le_refl _) (low hown') hgrow
  have m1 : Mod (fun k => k = B ∨ base ≤ k) W (W.alloc tmp) := Mod.of_ext ((Ext.refl W).alloc tmp)
  have m2 : Mod (fun k => k = B ∨ base ≤ k) W w1 := m1.grown hgrow fun k hk => .inl (.inr (by
    rcases hrow.2 with ⟨rfl, _⟩ | ⟨g, cap, cur, rfl, hb, _, _⟩
    · simp [Value.ownBlock] at hk
    · obtain rfl : g = k := by simpa [Value.ownBlock] using hk
      exact hb))
  exact ⟨h1, h2, hown'.kept (grownBy_setCell' w1 B v') (.inr (h1.not_row hte hown').symm), h4, h5, m2.setCell (p := ⟨B, 0, none⟩) (.inl (.inl rfl)) _⟩
theorem below_of (s n : Int) (w : World) :
    Calls Try.prog 37 #[.int .u8 s, .int .i64 n] w fun e w' => e = .returned (.func (.func 39) #[] #[.pointer (some ⟨w.heap.size + 1, 0, none⟩), .pointer (some ⟨w.heap.size, 0, none⟩)]) ∧ w' = (w.alloc (.cells #[.int .u8 s] 45)).alloc (.cells #[.int .i64 n] 3) := by
  go_enter Try.func37, Try.ntmps37
  go_wp2
  go_ret
  exact ⟨rfl, rfl⟩
theorem memQ_grow (s j : Nat) : ∀ q : Nat, (memQ s j).length ≤ (memQ s (j + q)).length
  | 0 => Nat.le_refl _
  | q + 1 => by
    refine Nat.le_trans (memQ_grow s j q) ?_
    rw [show j + (q + 1) = (j + q) + 1 by omega, memQ_succ]
    split <;> simp
theorem memQ_in {s j n : Nat} (h : j < n) (hb : s.testBit j = true) : (memQ s j).length < (memQ s n).length := by
  have h1 := memQ_grow s (j + 1) (n - (j + 1))
  rw [show j + 1 + (n - (j + 1)) = n by omega, memQ_succ, if_pos hb, List.length_append, List.length_singleton] at h1
  omega
set_option maxRecDepth 100000 in
set_option maxHeartbeats 1600000 in
theorem below1_in (n0 : Nat) (hn0 : 1 ≤ n0) (l bn bs : Nat) (G : Nat → Prop) (s : Nat) (hs : s < 256) (n : Int) (J Jx : List Nat → World → Prop) (W0 V : World) (hV : Mod G W0 V)
    (hAb : ∀ s W W', J s W → Ext W W' → J s W') (hGf : ¬ G bn ∧ ¬ G bs) (hcn : V.cell? ⟨bn, 0, none⟩ = some (.int .i64 n)) (hcs : V.cell? ⟨bs, 0, none⟩ = some (.int .u8 (s : Int)))
    (hY : ∀ pre x W, J pre W → pre.length < (membersQ s n).length → YieldAt Fence.wide (n0 - 1) Try.prog l (encQ x) W fun e W' =>
      (e = .returned (.bool true) ∧ J (pre ++ [x]) W' ∧ Mod G W W') ∨ (e = .returned (.bool false) ∧ Jx (pre ++ [x]) W')) (h0 : J [] V) :
    CallsIn Fence.wide n0 Try.prog 39 #[.func (.yield l) #[] #[], .pointer (some ⟨bn, 0, none⟩), .pointer (some ⟨bs, 0, none⟩)] V fun e W' => (∃ v, e = .returned v) ∧
      ((∃ ys : List Nat, ys = membersQ s n ∧ J ys W') ∨ (∃ pre : List Nat, pre.length ≤ (membersQ s n).length ∧ Jx pre W')) := by
  have HC := Lib.hid (And.intro hcn hcs)
  have HG := Lib.hid hGf
  have HV := Lib.hid hV
  have HY := Lib.hid hY
  have HAB := Lib.hid hAb
  have HM := Lib.hid (most_of n V)
  clear hV hY hGf hAb
  by_cases hm : mostQ n = 0
  · have HE := Lib.hid (show membersQ s n = [] by unfold membersQ; rw [if_pos hm])
    rw [hm] at HM
    clear hm
    refine callsIn_of_wp Try.func39 rfl trivial ?_ rfl
    simp only [Try.ntmps39, List.size_toArray, List.length_cons, List.length_nil, Nat.reduceAdd, Nat.reduceSub, Array.replicate_succ, Array.replicate_zero, List.push_toArray, List.append_toArray, List.nil_append, List.cons_append]
    gi_wp2_with (refine ⟨trivial, ?_⟩; gi_at_call 26; refine (callsIn_wide.2 HM.out).mono ?_; rintro e W3 ⟨rfl, rfl⟩)
    refine bodyPost_ret (results_none rfl _ _ _) rfl ?_
    exact ⟨⟨_, rfl⟩, .inl ⟨_, HE.out.symm, h0⟩⟩
  · have HE := Lib.hid (show membersQ s n = memQ s n.toNat by unfold membersQ; rw [if_neg hm])
    have hn : 0 ≤ n ∧ n ≤ 7 := by rcases mostQ_cases hm with rfl | rfl | rfl <;> omega
    have hmp : ((mostQ n : Int) == 0) = false := by simpa using hm
    generalize mostQ n = mq at *
    clear hm
    obtain ⟨N, rfl⟩ : ∃ N : Nat, n = (N : Int) := ⟨n.toNat, by omega⟩
    rw [Int.toNat_natCast] at HE
    have hN : N ≤ 7 := by omega
    clear hn
    refine callsIn_of_wp Try.func39 rfl trivial ?_ rfl
    simp only [Try.ntmps39, List.size_toArray, List.length_cons, List.length_nil, Nat.reduceAdd, Nat.reduceSub, Array.replicate_succ, Array.replicate_zero, List.push_toArray, List.append_toArray, List.nil_append, List.cons_append]
    gi_wp2_with (refine ⟨trivial, ?_⟩; gi_at_call 26; refine (callsIn_wide.2 HM.out).mono ?_; rintro e W3 ⟨rfl, rfl⟩)
    gi_loopw [9] (fun i wr => ∃ (j : Nat), j ≤ N ∧ i = .int .i64 (j : Int) ∧ Hid (J (memQ s j) wr) ∧ Hid (Mod G V wr)) (fun i _ => 100 - (intOf i).toNat)
    case atStart => exact ⟨0, by omega, rfl, Lib.hid h0, Lib.hid (Mod.refl _ _)⟩
    case round =>
      obtain ⟨j, hj, rfl, HJ, HMo⟩ := hrel
      have k0 : wr.cell? ⟨bn, 0, none⟩ = some (.int .i64 (N : Int)) := mod_cellQ HMo.out HG.out.1 HC.out.1
      have k1 : wr.cell? ⟨bs, 0, none⟩ = some (.int .u8 (s : Int)) := mod_cellQ HMo.out HG.out.2 HC.out.2
      clear hcn hcs
      by_cases hlt : j < N
      · have HH := Lib.hid (has_of s hs (j : Int) wr)
        have e7 : hasQ s (j : Int) = s.testBit j := by unfold hasQ; rw [decide_eq_true (show (0 : Int) ≤ (j : Int) ∧ (j : Int) < 7 by omega)]; rfl
        rw [e7] at HH
        have HS := Lib.hid (memQ_succ s j)
        obtain ⟨b, hb⟩ : ∃ b, s.testBit j = b := ⟨_, rfl⟩
        rw [hb] at HH
        have HB := Lib.hid hb
        clear hb e7
        cases b with
        | true =>
          obtain ⟨fn, tmps, assign, body, hy, hR⟩ := HY.out (memQ s j) j wr HJ.out (by rw [HE.out]; exact memQ_in hlt HB.out)
          have HR := Lib.hid hR
          have hy2 : (Instr.yield l #[.int .i64 (j : Int)]).run Try.prog wr = .ok (.round l fn tmps assign body) wr := hy
          clear hR hy
          gi_wp2_with (refine ⟨trivial, ?_⟩; gi_at_call 40; refine (callsIn_wide.2 HH.out).mono ?_; rintro e W3 ⟨rfl, rfl⟩)
          refine HR.out.mono ?_
          rintro e W4 (⟨rfl, hJ4, hM4⟩ | ⟨rfl, hJ4⟩)
          · have HJ4 := Lib.hid hJ4
            have HM4 : Hid (Mod G V W4) := Lib.hid (HMo.out.trans hM4 fun _ hi => .inl hi)
            clear hJ4 hM4 hy2 k0 k1
            gi_wp2
            go_roundw
            case rel => exact ⟨j + 1, by omega, by go_num, Lib.hid (by rw [HS.out, if_pos HB.out]; exact HJ4.out), HM4⟩
            case measure => simp [intOf]; omega
          · have HJ4 := Lib.hid hJ4
            clear hJ4 hy2 k0 k1
            gi_wp2
            refine bodyPost_ret (results_none rfl _ _ _) rfl ?_
            exact ⟨⟨_, rfl⟩, .inr ⟨_, by rw [HE.out, List.length_append, List.length_singleton]; exact memQ_in hlt HB.out, HJ4.out⟩⟩
        | false =>
          gi_wp2_with (refine ⟨trivial, ?_⟩; gi_at_call 40; refine (callsIn_wide.2 HH.out).mono ?_; rintro e W3 ⟨rfl, rfl⟩)
          refine ⟨fun _ h => (by cases h), ?_⟩
          gi_wp2
          go_roundw
          case rel => exact ⟨j + 1, by omega, by go_num, Lib.hid (by rw [HS.out, if_neg (by rw [HB.out]; simp)]; exact HJ.out), HMo⟩
          case measure => simp [intOf]; omega
      · obtain rfl : j = N := by omega
        gi_wp2
        go_end0
        exact ⟨⟨_, rfl⟩, .inl ⟨_, HE.out.symm, HJ.out⟩⟩
theorem below_stops (n0 : Nat) (hn0 : 1 ≤ n0) (bn bs : Nat) (G : Nat → Prop) (s : Nat) (hs : s < 256) (n : Int) (W0 : World) (hGf : ¬ G bn ∧ ¬ G bs) (hcn : W0.cell? ⟨bn, 0, none⟩ = some (.int .i64 n)) (hcs : W0.cell? ⟨bs, 0, none⟩ = some (.int .u8 (s : Int))) :
    SeqStopsK Fence.wide n0 Try.prog 39 #[.pointer (some ⟨bn, 0, none⟩), .pointer (some ⟨bs, 0, none⟩)] encQ (Mod G) (fun ys => ys = membersQ s n) (fun pre => pre.length ≤ (membersQ s n).length) (membersQ s n).length W0 := fun l J Jx V hV hJ _ hY h0 => by
  have hx : Ext W0 V := hV
  have hmo : Mod G W0 V := Mod.of_ext hx
  exact below1_in n0 hn0 l bn bs G s hs n J Jx W0 V hmo (fun s W W' hs hx => hJ s W W' none hs (grown_of_extQ hx) (fun r e => by cases e)) hGf (mod_cellQ hmo hGf.1 hcn) (mod_cellQ hmo hGf.2 hcs) hY h0
end Go.Proofs.Ytmnldkfkcfnkdaa

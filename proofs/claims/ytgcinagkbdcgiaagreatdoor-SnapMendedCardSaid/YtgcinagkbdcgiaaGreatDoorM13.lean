/-
  Plain facts on entries: what the functions answer, told in one form; entries that are altered.
-/
import Derived.Test.YtgcinagkbdcgiaaGreatDoorM00
import Derived.Test.YtgcinagkbdcgiaaGreatDoorM05
import Derived.Test.YtgcinagkbdcgiaaGreatDoorM11
import Derived.Test.YtgcinagkbdcgiaaGreatDoorM12
import Derived.RangeFuncNested
import Derived.RangeFuncBound
import Derived.RangeFuncCalls
import Derived.RangeFuncLeaves
import Derived.Shelf.Abstract
import Derived.Shelf.RegionOpen
import Derived.WalkKit
import Derived.OwnWalkIn
import Derived.TacticsInMore
import Derived.LoopNIn
import Derived.LoopIn
import Derived.RangeFuncBox
import Derived.Maps.AppendAt
import Derived.Deep.RegionHeld3
import Derived.Deep.MidRow
import Derived.Deep.QuietTactic
namespace Go.Proofs.YtgcinagkbdcgiaaGreatDoor
set_option maxRecDepth 100000
section
def pair2 (a b : List Nat) : List Nat := if a = [] ∨ b = [] then [] else a ++ b
theorem nilW_bad (r g p : Int) : stM [] r g p = 2 := by
  have hz : szB [] = false := by decide
  rw [(mine_bad (size_bad hz)).1]
  exact stN_size hz
end
section
structure Tch (m : DM) (T : Nat → Prop) (h0 : Nat → List Nat) : Prop where
  ok : m.Ok
  size : m.size = 156
  down : m.down = false
  waits : ∀ x ∈ m.waits, T x.1
  hold : ∀ t, ¬ T t → m.hold t = h0 t
section
variable {m : DM} {T : Nat → Prop} {h0 : Nat → List Nat}
theorem Tch.of_eq {m' : DM} (h : Tch m T h0) (hok : m'.Ok) (hs : m'.size = m.size) (hd : m'.down = m.down) (hw : m'.waits = m.waits) (h1 : m'.rest = m.rest) (h2 : m'.lost = m.lost) : Tch m' T h0 :=
  ⟨hok, hs.trans h.size, hd.trans h.down, by rw [hw]; exact h.waits, fun t ht => by rw [← h.hold t ht]; unfold DM.hold; rw [h1, h2]⟩
theorem Tch.write (h : Tch m T h0) {s : Nat} (hs : T s) {L : List Nat} (hb : ∀ x ∈ L, x < 256) : Tch (m.write (s : Int) L).2 T h0 := by
  have hok := DM.write_ok h.ok (s : Int) hb
  unfold DM.write at hok ⊢
  split
  · exact h
  · split
    · exact h
    · split
      · exact h.of_eq ⟨h.ok.meant, h.ok.lost, h.ok.rests, h.ok.means, h.ok.waits, h.ok.power⟩ rfl rfl rfl rfl rfl
      · rename_i h1 h2 h3
        rw [if_neg h1, if_neg h2, if_neg h3] at hok
        refine ⟨hok, h.size, h.down, fun x hx => ?_, h.hold⟩
        rcases List.mem_append.1 hx with hx | hx
        · exact h.waits x hx
        · simp only [List.mem_singleton] at hx
          subst hx
          exact hs
theorem Tch.comes (h : Tch m T h0) {l : List (Nat × List Nat)} (hl : ∀ x ∈ l, x ∈ m.waits) : ∀ t, ¬ T t → (m.comes l).hold t = h0 t := fun t ht => by
  have hn : lastW l t = none := lastW_none fun x hx he => ht (by rw [← he]; exact h.waits x (hl x hx))
  rw [hold_comes h.ok fun x hx => (h.ok.waits x (hl x hx)).1, hn]
  exact h.hold t ht
theorem Tch.flush (h : Tch m T h0) : Tch m.flush.2 T h0 := by
  have hok := DM.flush_ok h.ok
  unfold DM.flush at hok ⊢
  split
  · exact h
  · split
    · exact h.of_eq ⟨h.ok.meant, h.ok.lost, h.ok.rests, h.ok.means, h.ok.waits, h.ok.power⟩ rfl rfl rfl rfl rfl
    · rename_i h1 h2
      rw [if_neg h1, if_neg h2] at hok
      have h' : Tch ({ m with power := lessP m.power } : DM) T h0 := h.of_eq ⟨h.ok.meant, h.ok.lost, h.ok.rests, h.ok.means, h.ok.waits, lessP_le h.ok.power⟩ rfl rfl rfl rfl rfl
      obtain ⟨w1, w2, w3, w4⟩ := DM.comes_waits m.waits ({ m with power := lessP m.power } : DM)
      refine ⟨hok, ?_, w2.trans h.down, fun x hx => (by cases hx), h'.comes fun x hx => hx⟩
      show (DM.comes _ _).size = 156
      rw [DM.comes_size]
      exact h.size
theorem Tch.putC (h : Tch m T h0) {s : Nat} (hs : T s) {L : List Nat} (hb : ∀ x ∈ L, x < 256) : Tch (m.putC (s : Int) L).2 T h0 := by
  unfold DM.putC
  split
  · exact h.write hs hb
  · exact (h.write hs hb).flush
end
theorem Tch.again {m : DM} {T : Nat → Prop} {h0 : Nat → List Nat} (h : Tch m T h0) (k : List Bool) : (m.crash k).1 = 0 ∧ (m.crash k).2.start.1 = 0 ∧ CD (m.crash k).2.start.2 (-1) ∧ ∀ t, ¬ T t → (m.crash k).2.start.2.hold t = h0 t := by
  obtain ⟨a, b, c, d⟩ := CB.again (m := m) (w := m.waits) ⟨h.ok, h.size, rfl, h.down⟩ k
  refine ⟨a, b, c, fun t ht => ?_⟩
  have hn : lastW (kept m.waits k) t = none := lastW_none fun x hx he => ht (by rw [← he]; exact h.waits x (kept_mem hx))
  rw [d t, hn]
  exact h.hold t ht
theorem NInv.flush {m : DM} (h : NInv m) : NInv m.flush.2 := by
  have := h.act 0 0 0 (bytes := []) (fun _ hx => by cases hx) [] (by omega)
  exact this
section
variable {m : DM} {s : Nat} {L : List Nat}
theorem NInv.putC (h : NInv m) (hb : ∀ x ∈ L, x < 256) (t : Int) : NInv (m.putC t L).2 := by
  unfold DM.putC
  split
  · exact h.write t hb
  · exact (h.write t hb).flush
end
section
variable {m : DM} {pw : Int}
end
end
section
open Go
def LowF (i x y : Int) (c : CopL) : Prop := c = {} ∨ (c.st = 1 ∧ c.ix = i ∧ gtL x y c.bx c.yb) ∨ (c.st = 1 ∧ c.ix < i)
def SlH (j : Int) (o : Option (Int × Int × Ent)) (p : Rec) (f0 f1 : CopL) : Prop :=
  match o with
  | none => p = {} ∧ f0 = {} ∧ f1 = {}
  | some (x, y, e) => ∃ k : Int, (k = 0 ∨ k = 1) ∧ p = { st := 1, ix := j, bx := x, yb := y, wh := k } ∧ cop f0 f1 k = { st := 1, ix := j, bx := x, yb := y, e := e } ∧ LowF j x y (cop f0 f1 (1 - k))
theorem low_st {i x y : Int} {c : CopL} (h : LowF i x y c) : c.st ≤ 1 ∧ (c.st = 1 → c.ix ≤ i) := by
  rcases h with rfl | ⟨h1, h2, _⟩ | ⟨h1, h2⟩
  · exact ⟨by simp, fun h => by cases h⟩
  · exact ⟨by omega, fun _ => by omega⟩
  · exact ⟨by omega, fun _ => by omega⟩
theorem SlH.most {j : Int} {o : Option (Int × Int × Ent)} {p : Rec} {f0 f1 : CopL} (h : SlH j o p f0 f1) : p.st ≤ 1 ∧ f0.st ≤ 1 ∧ f1.st ≤ 1 ∧ (p.st = 1 → p.ix ≤ j) ∧ (f0.st = 1 → f0.ix ≤ j) ∧ (f1.st = 1 → f1.ix ≤ j) ∧ (p.wh = 0 ∨ p.wh = 1) := by
  match o, h with
  | none, h =>
    obtain ⟨rfl, rfl, rfl⟩ := h
    exact ⟨by simp, by simp, by simp, (fun h => by cases h), (fun h => by cases h), (fun h => by cases h), .inl rfl⟩
  | some (x, y, e), h =>
    obtain ⟨k, hk, rfl, hc, hl⟩ := h
    have hl := low_st hl
    have h1 : (cop f0 f1 k).st ≤ 1 ∧ ((cop f0 f1 k).st = 1 → (cop f0 f1 k).ix ≤ j) := by rw [hc]; exact ⟨by simp, fun _ => by simp⟩
    rcases hk with rfl | rfl
    · exact ⟨by simp, h1.1, hl.1, fun _ => by simp, h1.2, hl.2, .inl rfl⟩
    · exact ⟨by simp, hl.1, h1.1, fun _ => by simp, hl.2, h1.2, .inr rfl⟩
end
section
open Go Go.RowKit Go.Shelf
attribute [local go_sem] Oper.semAt_some
abbrev SecIn (a : Int) (k : Nat) := { x : Int // a ≤ x ∧ x < a + k }
def encS (a : Int) (k : Nat) (x : SecIn a k) : Array Value := #[.int .i64 x.1]
theorem grown_of_ext {w w' : World} (h : Ext w w') : w.grownBy w' none := ⟨h.os, h.tape, h.output, h.size, fun k hk _ => h.block k hk⟩
theorem mod_cell {G : Nat → Prop} {w w' : World} (k : Mod G w w') {g i : Nat} {v : Value} (hg : ¬ G g) (h : w.cell? ⟨g, i, none⟩ = some v) : w'.cell? ⟨g, i, none⟩ = some v :=
  (World.cell?_of_block (a := ⟨g, i, none⟩) (k.block g (World.block_lt_of_cell? w _ h) hg)).trans h
theorem ext_of_cell {w w' : World} {g i : Nat} {v : Value} (h : Ext w w') (hc : w.cell? ⟨g, i, none⟩ = some v) : w'.cell? ⟨g, i, none⟩ = some v := (Below.cell h (p := ⟨g, i, none⟩) (World.block_lt_of_cell? w _ hc)).trans hc
theorem mod_put {G : Nat → Prop} {w W : World} (l : Nat) (o o' : Obj) (hG : ∀ k, w.heap.size ≤ k → G k) (hl : w.heap.size ≤ l) (_ : W.heap[l]? = some o) : Mod G W (W.putObj l o') :=
  (Mod.refl G W).grown (grownBy_putObj' W l o') (fun k e => by cases e; exact .inl (hG l hl))
def HurtsOn (G : Nat → Prop) (W0 : World) (p : Option Addr) (a : Int) (k : Nat) (h : Int → Bool) : Prop :=
  ∀ x : Int, a ≤ x → x < a + k → ∀ W, Mod G W0 W → Calls Tryz.prog 200 #[.pointer p, .int .i64 x] W fun e W' => e = .returned (.bool (h x)) ∧ Ext W W'
theorem HurtsOn.of {G : Nat → Prop} {W0 : World} {d : Nat} {F : Nat → Prop} {m : DM} (hd : PDisk W0 d F m) (hG : ∀ i, F i → ¬ G i) (a : Int) (k : Nat) : HurtsOn G W0 (some ⟨d, 0, none⟩) a k m.hurt :=
  fun x _ _ _ hm => isHurt_of (hd.mod hm hG) x
theorem HurtsOn.none (G : Nat → Prop) (W0 : World) (p : Option Addr) (a : Int) (h : Int → Bool) : HurtsOn G W0 p a 0 h := fun x h1 h2 => by omega
set_option maxHeartbeats 600000 in
theorem sectors_in (p : Option Addr) (a : Int) (k : Nat) (w : World) :
    Calls Tryz.prog 118 #[.pointer p, .int .i64 a, .int .i64 (k : Int)] w fun e w' => e = .returned (.func (.func 199) #[] #[.pointer (some ⟨w.heap.size + 1, 0, none⟩), .pointer (some ⟨w.heap.size + 1 + 1, 0, none⟩), .pointer (some ⟨w.heap.size, 0, none⟩)]) ∧
      w' = ((w.alloc (.cells #[.pointer p] 24)).alloc (.cells #[.int .i64 a] 3)).alloc (.cells #[.int .i64 (k : Int)] 3) := by
  go_enter Tryz.func118, Tryz.ntmps118
  go_wp2
  go_ret
  exact ⟨rfl, rfl⟩
set_option maxHeartbeats 1600000 in
theorem hurt1_in (n : Nat) (hn : 1 ≤ n) (l Bf Bs Bd : Nat) (G : Nat → Prop) (p : Option Addr) (a : Int) (k : Nat) (ha : 0 ≤ a ∧ a ≤ 2000) (hk : k ≤ 2000) (h : Int → Bool) (J Jx : List (SecIn a k) → World → Prop) (W0 V : World) (hV : Mod G W0 V)
    (hAb : ∀ s W W', J s W → Ext W W' → J s W') (hI : HurtsOn G W0 p a k h) (hGf : ¬ G Bf ∧ ¬ G Bs ∧ ¬ G Bd)
    (hf : V.cell? ⟨Bf, 0, none⟩ = some (.int .i64 a)) (hs : V.cell? ⟨Bs, 0, none⟩ = some (.int .i64 (k : Int))) (hd : V.cell? ⟨Bd, 0, none⟩ = some (.pointer p))
    (hY : ∀ pre x W, J pre W → pre.length < k → YieldAt Fence.wide (n - 1) Tryz.prog l (encS a k x) W fun e W' =>
      (e = .returned (.bool true) ∧ J (pre ++ [x]) W' ∧ Mod G W W') ∨ (e = .returned (.bool false) ∧ Jx (pre ++ [x]) W')) (h0 : J [] V) :
    CallsIn Fence.wide n Tryz.prog 199 #[.func (.yield l) #[] #[], .pointer (some ⟨Bf, 0, none⟩), .pointer (some ⟨Bs, 0, none⟩), .pointer (some ⟨Bd, 0, none⟩)] V fun e W' => (∃ v, e = .returned v) ∧
      ((∃ ys : List (SecIn a k), ys.map (fun x => x.1) = hurtsIn h a k ∧ J ys W') ∨ (∃ pre : List (SecIn a k), pre.map (fun x => x.1) <+: hurtsIn h a k ∧ Jx pre W')) := by
  have HI := Lib.hid hI
  have HG := Lib.hid hGf
  have HF := Lib.hid hf
  have HS := Lib.hid hs
  have HD := Lib.hid hd
  have HAB := Lib.hid hAb
  have HV := Lib.hid hV
  obtain ⟨ha0, ha1⟩ := ha
  clear hI hGf hs hd hAb hV
  refine callsIn_of_wp Tryz.func199 rfl trivial ?_ rfl
  simp only [Tryz.ntmps199, List.size_toArray, List.length_cons, List.length_nil, Nat.reduceAdd, Nat.reduceSub, Array.replicate_succ, Array.replicate_zero, List.push_toArray, List.append_toArray, List.nil_append, List.cons_append]
  gi_wp2
  gi_loopw [5] (fun i wr => ∃ (j : Nat) (pre : List (SecIn a k)), j ≤ k ∧ i = .int .i64 (a + (j : Int)) ∧ Hid (pre.map (fun x => x.1) = hurtsIn h a j) ∧ Hid (pre.length ≤ j) ∧ Hid (J pre wr) ∧ Hid (Mod G V wr)) (fun i _ => (a + (k : Int) - intOf i).toNat)
  case atStart => exact ⟨0, [], Nat.zero_le _, by rw [Int.natCast_zero, Int.add_zero], Lib.hid rfl, Lib.hid (Nat.le_refl _), Lib.hid h0, Lib.hid (Mod.refl _ _)⟩
  case round =>
    obtain ⟨j, pre, hj, rfl, HP, HLE, HJ, HM⟩ := hrel
    have cf := mod_cell HM.out HG.out.1 HF.out
    have cs := mod_cell HM.out HG.out.2.1 HS.out
    have cd := mod_cell HM.out HG.out.2.2 HD.out
    clear hf
    by_cases hlt : j < k
    · have hlt2 : a + (j : Int) < a + (k : Int) := by omega
      have hc := HI.out (a + (j : Int)) (by omega) hlt2 wr (HV.out.trans HM.out fun _ hi => .inl hi)
      have hsucc := hurtsIn_succ h a j
      cases hh : h (a + (j : Int)) with
      | true =>
        rw [hh] at hc
        rw [if_pos hh] at hsucc
        have hc2 : Calls Tryz.prog 200 #[.pointer p, .int .i64 (a + (j : Int))] wr fun e W' => e = .returned (.bool true) ∧ (∃ fn tmps assign body, (Instr.yield l #[.int .i64 (a + (j : Int))]).run Tryz.prog W' = .ok (.round l fn tmps assign body) W' ∧ Hid (RoundIn Fence.wide (n - 1) Tryz.prog l fn tmps assign body W' fun e W' => (e = .returned (.bool true) ∧ Hid (J (pre ++ [⟨a + (j : Int), by omega, hlt2⟩]) W') ∧ Hid (Mod G V W')) ∨ (e = .returned (.bool false) ∧ Hid (Jx (pre ++ [⟨a + (j : Int), by omega, hlt2⟩]) W'))) ) :=
          hc.mono fun e W' ⟨he, hx⟩ => by
            obtain ⟨fn, tmps, assign, body, hy, hR⟩ := hY pre ⟨a + (j : Int), by omega, hlt2⟩ W' (HAB.out _ _ _ HJ.out hx) (Nat.lt_of_le_of_lt HLE.out hlt)
            exact ⟨he, fn, tmps, assign, body, hy, Lib.hid (hR.mono fun e W3 hh => hh.imp (fun ⟨a1, a2, a3⟩ => ⟨a1, Lib.hid a2, Lib.hid ((HM.out.ext hx).trans a3 fun _ hi => .inl hi)⟩) (fun ⟨a1, a2⟩ => ⟨a1, Lib.hid a2⟩))⟩
        have HC := Lib.hid hc2
        have HSU := Lib.hid hsucc
        clear hc hc2 hsucc hh
        gi_wp2_with (refine ⟨trivial, ?_⟩; gi_at_call 200; refine (callsIn_wide.2 HC.out).mono ?_; rintro e W3 ⟨rfl, fn, tmps, assign, body, hy, HR⟩)
        refine HR.out.mono ?_
        rintro e W4 (⟨rfl, HJ4, HM4⟩ | ⟨rfl, HJ4⟩)
        · gi_wp2
          go_roundw
          case rel => exact ⟨j + 1, _, by omega, by go_num, Lib.hid (by rw [List.map_append, HP.out, HSU.out]; rfl), Lib.hid (by have := HLE.out; simp; omega), HJ4, HM4⟩
          case measure => simp [intOf]; omega
        · gi_wp2
          refine bodyPost_ret (results_none rfl _ _ _) rfl ?_
          refine ⟨⟨_, rfl⟩, .inr ⟨_, ?_, HJ4.out⟩⟩
          rw [List.map_append, HP.out, List.map_cons, List.map_nil, ← HSU.out]
          have : ∀ q, hurtsIn h a (j + 1) <+: hurtsIn h a (j + 1 + q) := fun q => by
            induction q with
            | zero => exact List.prefix_refl _
            | succ q ih =>
              refine ih.trans ?_
              rw [show j + 1 + (q + 1) = (j + 1 + q) + 1 by omega, hurtsIn_succ h a (j + 1 + q)]
              split
              · exact List.prefix_append _ _
              · exact List.prefix_refl _
          have h2 := this (k - (j + 1))
          rwa [show j + 1 + (k - (j + 1)) = k by omega] at h2
      | false =>
        rw [hh] at hc
        rw [if_neg (by rw [hh]; simp)] at hsucc
        have hc2 : Calls Tryz.prog 200 #[.pointer p, .int .i64 (a + (j : Int))] wr fun e W' => e = .returned (.bool false) ∧ Hid (J pre W') ∧ Hid (Mod G V W') :=
          hc.mono fun e W' ⟨he, hx⟩ => ⟨he, Lib.hid (HAB.out _ _ _ HJ.out hx), Lib.hid (HM.out.ext hx)⟩
        have HC := Lib.hid hc2
        have HSU := Lib.hid hsucc
        clear hc hc2 hsucc hh
        gi_wp2_with (refine ⟨trivial, ?_⟩; gi_at_call 200; refine (callsIn_wide.2 HC.out).mono ?_; rintro e W3 ⟨rfl, HJ3, HM3⟩)
        refine ⟨fun _ h => (by cases h), ?_⟩
        gi_wp2
        go_roundw
        case rel => exact ⟨j + 1, pre, by omega, by go_num, Lib.hid (by rw [HP.out, HSU.out]), Lib.hid (by have := HLE.out; omega), HJ3, HM3⟩
        case measure => simp [intOf]; omega
    · obtain rfl : j = k := by omega
      gi_wp2
      go_end0
      exact ⟨⟨_, rfl⟩, .inl ⟨pre, HP.out, HJ.out⟩⟩
theorem hurt_stops (n : Nat) (hn : 1 ≤ n) (Bf Bs Bd : Nat) (G : Nat → Prop) (p : Option Addr) (a : Int) (k : Nat) (ha : 0 ≤ a ∧ a ≤ 2000) (hk : k ≤ 2000) (h : Int → Bool) (W0 : World) (hI : HurtsOn G W0 p a k h) (hGf : ¬ G Bf ∧ ¬ G Bs ∧ ¬ G Bd)
    (hf : W0.cell? ⟨Bf, 0, none⟩ = some (.int .i64 a)) (hs : W0.cell? ⟨Bs, 0, none⟩ = some (.int .i64 (k : Int))) (hd : W0.cell? ⟨Bd, 0, none⟩ = some (.pointer p)) :
    SeqStopsK Fence.wide n Tryz.prog 199 #[.pointer (some ⟨Bf, 0, none⟩), .pointer (some ⟨Bs, 0, none⟩), .pointer (some ⟨Bd, 0, none⟩)] (encS a k) (Mod G)
      (fun ys => ys.map (fun x => x.1) = hurtsIn h a k) (fun pre => pre.map (fun x => x.1) <+: hurtsIn h a k) k W0 := fun l J Jx V hV hJ _ hY h0 => by
  have hx : Ext W0 V := hV
  have hm : Mod G W0 V := Mod.of_ext hx
  exact hurt1_in n hn l Bf Bs Bd G p a k ha hk h J Jx W0 V hm (fun s W W' hs hx => hJ s W W' none hs (grown_of_ext hx) (fun r e => by cases e)) hI hGf (mod_cell hm hGf.1 hf) (mod_cell hm hGf.2.1 hs) (mod_cell hm hGf.2.2 hd) hY h0
end
section
open Go Go.RowKit Go.Shelf
attribute [local go_sem] Oper.semAt_some
end
section
open Go Go.RowKit Go.Shelf
attribute [local go_sem] Oper.semAt_some
theorem ownF_block {β : Type} (B g : Nat) (cs : β → Array Value) (t : TypeId) : OwnFrom B (fun (s : β) W => W.heap[g]? = some (.cells (cs s) t (0, 0))) := fun s W W' row hs hg hr => by
  refine (hg.block g (Array.getElem?_eq_some_iff.1 hs).1 (fun e => ?_)).trans hs
  obtain ⟨_, o, ho, hoc⟩ := hr g e.symm
  rw [hs] at ho
  injection ho with ho
  subst ho
  cases hoc
theorem keepF {V w' : World} {g : Nat} {v : Value} {t : TypeId} (k : Hid (Ext V.drew w')) (h1 : Hid (V.heap[g]? = some (.cells #[v] t (0, 0)))) : w'.cell? ⟨g, 0, none⟩ = some v ∧ w'.frozen? ⟨g, 0, none⟩ = false := by
  have h := (k.out.block g (Array.getElem?_eq_some_iff.1 h1.out).1).trans h1.out
  exact ⟨cell_of_row _ _ 0 _ _ _ h, frozen_of_row _ _ 0 _ _ h⟩
theorem keepG {V w' : World} {g : Nat} {v : Value} {t : TypeId} (k : Hid (Ext V.drew w')) (h1 : Hid (V.heap[g]? = some (.cells #[v] t (0, 0)))) : (w'.setCell ⟨g, 0, none⟩ v).cell? ⟨g, 0, none⟩ = some v ∧ (w'.setCell ⟨g, 0, none⟩ v).frozen? ⟨g, 0, none⟩ = false := by
  have h := row_set 0 ((k.out.block g (Array.getElem?_eq_some_iff.1 h1.out).1).trans h1.out) v rfl
  exact ⟨cell_of_row _ _ 0 _ _ _ h, frozen_of_row _ _ 0 _ _ h⟩
theorem keepD {V w' : World} {g i : Nat} {v : Value} (k : Hid (Ext V.drew w')) (h1 : Hid (V.cell? ⟨g, i, none⟩ = some v)) : w'.cell? ⟨g, i, none⟩ = some v := ext_of_cell k.out h1.out
theorem empty_map {α β : Type} {f : α → β} {l : List α} {l2 : List β} (h : l.map f = l2) : l.isEmpty = l2.isEmpty := by subst h; cases l <;> rfl
theorem pl_ret {b : Nat} {W : World} {a : Act} {D : Nat} {h bd : Bool} {E : Int} {R : Ending → World → Prop} (h8 : a.tmps.getD 8 undef = .pointer (some ⟨b, 0, none⟩)) (h9 : a.tmps.getD 9 undef = .bool bd) (h10 : a.tmps.getD 10 undef = .int .i64 E)
    (hd : a.defers = [{ target := .collected D, args := #[] }]) (hK : W.heap[D]? = some (.deferred (some []))) (c1 : W.cell? ⟨b, 0, none⟩ = some (.bool h))
    (hR : R (.returned (.tuple #[.bool h, .bool bd, .int .i64 E])) (W.putObj D (.deferred none))) : bodyPostM Fence.wide 9 Tryz.prog Tryz.f45 R .ret a W := by
  refine retM1 (v := .tuple #[.bool h, .bool bd, .int .i64 E]) hd hK ?_ hR
  have k1 := cell_kept c1 (grownBy_putObj' _ D (.deferred none)) (fun r e => by cases e; exact ⟨_, hK, rfl⟩)
  have h8' : a.tmps[8]?.getD undef = .pointer (some ⟨b, 0, none⟩) := by simpa using h8
  have h9' : a.tmps[9]?.getD undef = .bool bd := by simpa using h9
  have h10' : a.tmps[10]?.getD undef = .int .i64 E := by simpa using h10
  simp [results, Tryz.results45, go_sem, h8', h9', h10', k1]
theorem firstS_le (g p : Int) : firstS g p ≤ 156 := by
  have h1 := beg_le g
  have h2 := wid_le g
  by_cases hh : 0 ≤ p ∧ p < plc g
  · rw [firstS_yes hh]
    have hr := plc_some (r := g) (by omega)
    rcases region_cases hr with rfl | rfl | rfl | rfl | rfl <;> simp [beg, plc, wid] at hh ⊢ <;> omega
  · rw [firstS_no hh]; omega
set_option maxHeartbeats 1600000 in
theorem place_yes {w : World} {d : Nat} {F : Nat → Prop} {m : DM} (h : PDisk w d F m) (hL : LaidF w) (r g pl : Int) (hE : placeG m.size r g pl = 0) :
    Calls Tryz.prog 45 #[.pointer (some ⟨d, 0, none⟩), .int .i64 r, .int .i64 g, .int .i64 pl] w fun e w' => e = .returned (.tuple #[.bool (anyIn m.hurt (firstS g pl) (wid g)), .bool (anyIn m.hurt (firstS g pl) (wid g) && m.badB r g pl), .int .i64 0]) ∧ Ext w w' := by
  have hE0 : Ext w (w.alloc (.cells #[.bool false] 4)) := (Ext.refl w).alloc _
  have hk := gplace_of (Sized.of (h.ext hE0)) (hL.ext hE0).a.t r g pl
  rw [hE] at hk
  have hf0 := (placeG_ok hE).2
  have hfl := firstS_le g pl
  have hwl := wid_le g
  have hlt : w.heap.size < (w.alloc (.cells #[.bool false] 4)).heap.size := by simp
  have hz := heap_alloc_new w (.cells #[.bool false] 4)
  have HZ := Lib.hid hz
  have HK := Lib.hid hk
  have HE0 := Lib.hid hE0
  have H := Lib.hid h
  have HL := Lib.hid hL
  have HF0 := Lib.hid hf0
  obtain ⟨S, hS⟩ : ∃ S, firstS g pl = S := ⟨_, rfl⟩
  obtain ⟨W, hW⟩ : ∃ W, wid g = W := ⟨_, rfl⟩
  have HS := Lib.hid hS
  have HW := Lib.hid hW
  rw [hS] at hf0 hfl
  rw [hW] at hwl
  rw [hS, hW]
  clear h hL hk hE hE0 hz hS hW
  refine calls_marks Tryz.func45 rfl ?_
  simp only [Tryz.ntmps45, List.size_toArray, List.length_cons, List.length_nil, Nat.reduceAdd, Nat.reduceSub, Array.replicate_succ, Array.replicate_zero, List.push_toArray, List.append_toArray, List.nil_append, List.cons_append]
  go_wp2_with fail
  refine HK.out.mono ?_
  rintro e w1 ⟨rfl, hx⟩
  have HZ := Lib.hid ((hx.block _ hlt).trans HZ.out)
  have HX := Lib.hid (HE0.out.trans hx)
  clear hx
  go_wp2_with fail
  refine (first_any g pl _ (HL.out.ext HX.out).a.t).mono ?_
  rw [HS.out]
  rintro e w2 ⟨rfl, hx⟩
  have HZ := Lib.hid ((hx.block _ (Array.getElem?_eq_some_iff.1 HZ.out).1).trans HZ.out)
  have HX := Lib.hid (HX.out.trans hx)
  clear hx
  go_wp2_with fail
  refine (wide_any g _ (HL.out.ext HX.out).a.t).mono ?_
  rw [HW.out]
  rintro e w3 ⟨rfl, hx⟩
  have HZ := Lib.hid ((hx.block _ (Array.getElem?_eq_some_iff.1 HZ.out).1).trans HZ.out)
  have HX := Lib.hid (HX.out.trans hx)
  clear hx
  go_wp2_with fail
  refine (sectors_in _ S W _).mono ?_
  rintro e w4 ⟨rfl, hw4⟩
  have hE4 : Ext w3 w4 := by rw [hw4]; exact (((Ext.refl w3).alloc _).alloc _).alloc _
  have hlt0 : w.heap.size < w3.heap.size := (Array.getElem?_eq_some_iff.1 HZ.out).1
  have hsz : w4.heap.size = w3.heap.size + 3 := by rw [hw4]; simp
  have hz4 := (hE4.block _ hlt0).trans HZ.out
  have HZ := Lib.hid hz4
  have HX := Lib.hid (HX.out.trans hE4)
  have hst := hurt_stops 8 (by omega) (w3.heap.size + 1) (w3.heap.size + 1 + 1) w3.heap.size (fun i => i = w.heap.size ∨ w4.heap.size ≤ i) (some ⟨d, 0, none⟩) S W ⟨hf0, by omega⟩ (by omega) m.hurt w4
    (HurtsOn.of (H.out.ext HX.out) (fun i hi hg => hg.elim (fun e => absurd (H.out.lt i hi) (by omega)) (fun e => absurd ((H.out.ext HX.out).lt i hi) (by omega))) S W)
    ⟨by omega, by omega, by omega⟩ (by rw [hw4]; simp [go_sem]) (by rw [hw4]; simp [go_sem]) (by rw [hw4]; simp [go_sem])
  have HST := Lib.hid hst
  have h48 : w.heap.size ≤ w4.heap.size := by omega
  clear hst hE4 hz4 hw4 HE0 HK
  go_wp2_with fail
  refine (wpIn_wide (n := 9)).1 ?_
  refine wpIn_rangeFunc_ownG (F := Fence.wide) (n := 9) rfl (by omega) (gf := 199) (lb := #[.pointer (some ⟨w3.heap.size + 1, 0, none⟩), .pointer (some ⟨w3.heap.size + 1 + 1, 0, none⟩), .pointer (some ⟨w3.heap.size, 0, none⟩)]) rfl trivial (enters_of Tryz.func199 (by kernel_rfl) rfl)
    HST.out (fun h k => h.trans k fun _ hi => .inl hi) (fun W l o o' hl ho _ _ => mod_put (w := w4) l o o' (fun k hk => .inr hk) hl ho) (Below.refl _ _) (fun _ => rfl)
    (fun pre V => V.heap[w.heap.size]? = some (.cells #[.bool (!pre.isEmpty)] 4 (0, 0)) ∧ Below w.heap.size w V)
    (fun _ _ _ => False)
    (OwnFrom.and (ownF_block _ _ (fun pre : List (SecIn S W) => #[.bool (!pre.isEmpty)]) _) (ownFrom_below (Nat.le_refl _) h48))
    (fun _ _ _ _ _ hs _ _ => hs)
    ⟨HZ.out, HX.out⟩
    (fun x => { tmps := #[.pointer (some ⟨d, 0, none⟩), .int .i64 r, .int .i64 g, .int .i64 pl, undef, undef, undef, undef, .pointer (some ⟨w.heap.size, 0, none⟩), .bool false, .int .i64 0, .int .i64 0, .pointer (some ⟨d, 0, none⟩), .int .i64 r, .int .i64 g, .int .i64 pl, .int .i64 0, .int .i64 0, .bool false, undef, .pointer (some ⟨d, 0, none⟩), .int .i64 g, .int .i64 pl, .int .i64 S, .int .i64 g, .int .i64 W, .func (.func 199) #[] #[.pointer (some ⟨w3.heap.size + 1, 0, none⟩), .pointer (some ⟨w3.heap.size + 1 + 1, 0, none⟩), .pointer (some ⟨w3.heap.size, 0, none⟩)], .int .i64 x.1, undef, undef, undef, undef, undef, undef, undef, undef, undef], defers := [] }) ?assign ?body ?done ?stop
  case assign =>
    intro l x W K hK
    dsimp only [encS]
    gi_wp2
    exact hK
  case body =>
    rintro l pre x V ⟨hz, hB⟩ hlt
    have hc := cell_of_row V _ 0 _ _ _ hz
    have hf := frozen_of_row V _ 0 _ _ hz
    have hl1 := (Array.getElem?_eq_some_iff.1 hz).1
    gi_wp2
    exact ⟨(KeepsOthers.setCell _ _ _).from _, (Mod.refl _ _).setCell (p := ⟨w.heap.size, 0, none⟩) (.inl (.inl rfl)) _, by rw [show (!(pre ++ [x]).isEmpty) = true by simp]; exact row_set 0 hz (.bool true) rfl, hB.setCell (p := ⟨w.heap.size, 0, none⟩) (Nat.le_refl _) _⟩
  case done =>
    rintro D ys V hD hys ⟨hz, hB⟩ hK
    have hem : (!ys.isEmpty) = anyIn m.hurt S W := by rw [anyIn_nil, empty_map hys]
    rw [hem] at hz
    clear hys hem
    have hbad := fun (V' : World) (hx : Ext w V') => isBad_of (H.out.ext hx) (HL.out.ext hx) r g pl (by rw [HS.out]; exact hf0)
    have HBAD := Lib.hid hbad
    clear hbad
    obtain ⟨hu, hhu⟩ : ∃ hu, anyIn m.hurt S W = hu := ⟨_, rfl⟩
    rw [hhu] at hz
    have HHU := Lib.hid hhu
    clear hhu
    cases hu with
    | true =>
      have hc := cell_of_row V _ 0 _ _ _ hz
      have hf := frozen_of_row V _ 0 _ _ hz
      have hl1 := (Array.getElem?_eq_some_iff.1 hz).1
      go_wp2_with fail
      have HC := Lib.hid hz
      have HXd : Hid (Ext w V.drew) := Lib.hid (Below.drew hB)
      go_region_held3 (fun w' => w'.cell? ⟨w.heap.size, 0, none⟩ = some (.bool true) ∧ w'.frozen? ⟨w.heap.size, 0, none⟩ = false)
        (first | with_reducible exact ⟨hc, hf⟩ | exact keepF (by assumption) HC | exact keepG (by assumption) HC | go_keep)
        (first
          | (go_at_call 120; ((with_reducible refine (HBAD.out _ HXd.out).mono ?_); rintro e w5 ⟨rfl, hx⟩; have HXk := Lib.hid hx; clear hx)))
      have hDV := (Array.getElem?_eq_some_iff.1 hK).1
      have hK5 : w5.heap[D]? = some (.deferred (some [])) := (HXk.out.block D hDV).trans hK
      have hz5 : w5.heap[w.heap.size]? = some (.cells #[.bool true] 4 (0, 0)) := (HXk.out.block _ hl1).trans hz
      have hx5 : Ext w w5 := HXd.out.trans HXk.out
      have hKs := heap_set (k := 0) (x := .bool true) (show D ≠ w.heap.size by omega) hK5
      have hzs := cell_of_row _ _ 0 _ _ _ (row_set 0 hz5 (.bool true) rfl)
      have hxs : Ext w (w5.setCell ⟨w.heap.size, 0, none⟩ (.bool true)) := hx5.setCell (p := ⟨w.heap.size, 0, none⟩) (Nat.le_refl _) _
      clear HXk hc hf hz hK hB
      go_wp2_with fail
      refine pl_ret rfl rfl rfl rfl hKs hzs ?_
      exact ⟨by rw [HHU.out]; rfl, ext_put hxs (by omega) hKs⟩
    | false =>
      have hc := cell_of_row V _ 0 _ _ _ hz
      have hf := frozen_of_row V _ 0 _ _ hz
      have hl1 := (Array.getElem?_eq_some_iff.1 hz).1
      go_wp2_with fail
      go_region
      have hKs := heap_set (k := 0) (x := .bool false) (show D ≠ w.heap.size by omega) hK
      have hzs := cell_of_row _ _ 0 _ _ _ (row_set 0 hz (.bool false) rfl)
      have hxs : Ext w (V.setCell ⟨w.heap.size, 0, none⟩ (.bool false)) := hB.setCell (p := ⟨w.heap.size, 0, none⟩) (Nat.le_refl _) _
      clear hc hf hz hK hB
      go_wp2_with fail
      refine pl_ret (W := (V.setCell ⟨w.heap.size, 0, none⟩ (.bool false)).drew) rfl rfl rfl rfl hKs hzs ?_
      exact ⟨by rw [HHU.out]; rfl, ext_put (Below.drew hxs) (by omega) hKs⟩
  case stop =>
    rintro D c pre W _ _ h _
    exact h.elim
end
section
open Go Go.RowKit
def regCells : List Value := [.int .i64 0, .int .i64 0, .int .i64 2, .int .i64 1, .int .i64 2, .int .i64 1, .int .i64 24, .int .i64 1, .int .i64 48, .int .i64 2, .int .i64 16, .int .i64 2]
theorem LaidT.range {w : World} (h : LaidT w) : w.rangeAt 2 0 regCells := by
  intro j v hv
  have hj : j < 12 := (List.getElem?_eq_some_iff.1 hv).1
  have hj' : j = 0 ∨ j = 1 ∨ j = 2 ∨ j = 3 ∨ j = 4 ∨ j = 5 ∨ j = 6 ∨ j = 7 ∨ j = 8 ∨ j = 9 ∨ j = 10 ∨ j = 11 := by omega
  rw [Nat.zero_add, ← hv]
  rcases hj' with rfl | rfl | rfl | rfl | rfl | rfl | rfl | rfl | rfl | rfl | rfl | rfl
  · exact (h 0 (by omega)).1
  · exact (h 0 (by omega)).2
  · exact (h 1 (by omega)).1
  · exact (h 1 (by omega)).2
  · exact (h 2 (by omega)).1
  · exact (h 2 (by omega)).2
  · exact (h 3 (by omega)).1
  · exact (h 3 (by omega)).2
  · exact (h 4 (by omega)).1
  · exact (h 4 (by omega)).2
  · exact (h 5 (by omega)).1
  · exact (h 5 (by omega)).2
theorem reg_size : (Tryz.prog.info? 278).map (·.size) = some regCells.length := by kernel_rfl
theorem reg_index (k : Nat) (hk : k < 6) (w : World) : (Instr.index 278 (.agg regCells.toArray) (.int .i64 k)).run Tryz.prog w = .ok (.agg #[.int .i64 (plc k), .int .i64 (wid k)]) w := by
  have hj' : k = 0 ∨ k = 1 ∨ k = 2 ∨ k = 3 ∨ k = 4 ∨ k = 5 := by omega
  rcases hj' with rfl | rfl | rfl | rfl | rfl | rfl <;> (show _ = _; kernel_rfl)
set_option maxHeartbeats 1600000 in
theorem owhere_any (s : Int) (w : World) (hL : LaidT w) (hs : s ≤ 9223372036854775807) :
    Calls Tryz.prog 119 #[.int .i64 s] w fun e w' => e = .returned (.tuple #[.int .i64 (wReg s), .int .i64 (wPlc s), .int .i64 (wBeh s), .bool (wIs s)]) ∧ Ext w w' := by
  have HL := Lib.hid hL
  clear hL
  by_cases h0 : s < 0
  · have HF := Lib.hid (where_no (s := s) (.inl h0))
    go_enter Tryz.func119, Tryz.ntmps119
    go_wp2_with fail
    exact bodyPost_ret (v := .tuple #[.int .i64 0, .int .i64 0, .int .i64 0, .bool false]) (by simp [results, Tryz.results119, go_sem]) rfl ⟨by rw [HF.out.1, HF.out.2.1, HF.out.2.2.1, HF.out.2.2.2], Ext.refl w⟩
  go_enter Tryz.func119, Tryz.ntmps119
  go_wp2_with (refine wpList_load_mid rfl 278 _ rfl 2 0 rfl regCells _ HL.out.range Tryz.underlying278 rfl reg_size ?_)
  go_loopw [6, 13] (fun b i wr => ∃ k : Nat, k ≤ 6 ∧ i = .int .i64 k ∧ b = .int .i64 (s - beg k) ∧ (beg k : Int) ≤ s ∧ Hid (Ext w wr)) (fun _ i _ => 6 - (intOf i).toNat)
  case atStart => exact ⟨0, Nat.zero_le _, rfl, by rw [show beg ((0 : Nat) : Int) = 0 from rfl]; simp, by rw [show beg ((0 : Nat) : Int) = 0 from rfl]; omega, Lib.hid (Ext.refl w)⟩
  case round =>
    obtain ⟨k, hk, rfl, rfl, hbk, HX⟩ := hrel
    by_cases hlt : k < 6
    · have HI := reg_index k hlt
      have HB := Lib.hid (beg_next k (by omega))
      have hb := beg_le k
      have hp := plc_wid k
      go_wp2_with fail
      refine (sectors_any _ _ _ (by omega)).mono ?_
      rintro e w2 ⟨rfl, hx⟩
      have hz : wr.heap.size < (wr.alloc (.cells #[.int .i64 (plc k), .int .i64 (wid k)] 277)).heap.size := by simp
      have hc0 := (Below.cell hx (p := ⟨wr.heap.size, 0, none⟩) hz).trans (cell_of_row _ wr.heap.size 0 _ 277 (0, 0) (heap_alloc_new wr _))
      have hc1 := (Below.cell hx (p := ⟨wr.heap.size, 1, none⟩) hz).trans (cell_of_row _ wr.heap.size 1 _ 277 (0, 0) (heap_alloc_new wr _))
      have HX := Lib.hid ((HX.out.alloc (.cells #[.int .i64 (plc k), .int .i64 (wid k)] 277)).trans hx)
      clear hx hz
      simp at hc0 hc1
      by_cases hin : s - (beg k : Int) < ((plc k * wid k : Nat) : Int)
      · have hk1 : 1 ≤ k := by
          rcases Nat.eq_zero_or_pos k with rfl | h
          · rw [show beg ((0 : Nat) : Int) = 0 from rfl, show plc ((0 : Nat) : Int) = 0 from rfl] at hin; omega
          · exact h
        have hwp := wid_pos (r := k) (by omega)
        have HW := Lib.hid (where_at hk1 (by omega) hbk hin)
        go_wp2_with fail
        go_quiet (fail)
        go_wp2_with fail
        exact bodyPost_ret (v := .tuple #[.int .i64 k, .int .i64 ((s - beg k) / wid k), .int .i64 ((s - beg k) % wid k), .bool true]) (by simp [results, Tryz.results119, go_sem]) rfl ⟨by rw [HW.out.1, HW.out.2.1, HW.out.2.2.1, HW.out.2.2.2], HX.out.drewN nq⟩
      · go_wp2_with fail
        refine (sectors_any _ _ _ (by omega)).mono ?_
        rintro e w3 ⟨rfl, hx⟩
        have HX := Lib.hid (HX.out.trans hx)
        clear hx
        go_wp2_with fail
        go_roundw
        case rel => exact ⟨k + 1, by omega, by go_num, by rw [show ((k + 1 : Nat) : Int) = (k : Int) + 1 from rfl, HB.out]; go_num, by rw [show ((k + 1 : Nat) : Int) = (k : Int) + 1 from rfl, HB.out]; omega, HX⟩
        case measure => simp [intOf]; omega
    · have HF := Lib.hid (where_no (s := s) (.inr (by
        obtain rfl : k = 6 := by omega
        exact hbk)))
      go_wp2_with fail
      exact bodyPost_ret (v := .tuple #[.int .i64 0, .int .i64 0, .int .i64 0, .bool false]) (by simp [results, Tryz.results119, go_sem]) rfl ⟨by rw [HF.out.1, HF.out.2.1, HF.out.2.2.1, HF.out.2.2.2], HX.out⟩
end
end Go.Proofs.YtgcinagkbdcgiaaGreatDoor

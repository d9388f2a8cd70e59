/-
  What it means that the program's disk at a pointer is a disk in plain words.
-/
import Derived.Test.YtnlappoocffcpaaDoorB00
import Derived.Test.YtnlappoocffcpaaDoorB01
import Derived.Test.YtnlappoocffcpaaDoorB02
import Derived.Test.YtnlappoocffcpaaDoorProg
import Derived.Deep.MidRow
import Derived.WalkKit
import Derived.WalkSpells
import Derived.WalkLawsBesides
import Derived.BigQuiet
import Derived.Deep.QuietTactic
import Derived.Lib.Hide
import Derived.Outline
import Derived.LaidEqlPtr
import Derived.Deep.WholeRow
import Derived.StillTailTactics
import Derived.Laws.Tables
import Derived.ProofKit
import Derived.OpenShut
import Derived.Deep.Slices
import Derived.Deep.Fields
import Derived.Deep.RegionHeld3
import Derived.RangeFuncNested
import Derived.RangeFuncBound
import Derived.RangeFuncCalls
import Derived.RangeFuncLeaves
import Derived.Shelf.Abstract
import Derived.Shelf.RegionOpen
import Derived.OwnWalkIn
import Derived.TacticsInMore
import Derived.LoopNIn
import Derived.LoopIn
import Derived.Laws.CopyOwn
import Derived.Deep.AppendLies
import Derived.Lib.SmallJoins
import Derived.Laws.BitsAllLaws
import Derived.Deep.DeepCutAuto
import Derived.OrdersIn
import Derived.TacticsIn
import Derived.Laws.IdiomArrays
namespace Go.Proofs.YtnlappoocffcpaaDoor
set_option maxRecDepth 100000
section
open Go Go.RowKit
def secC (r m : List Nat) (l : Bool) : List Value := vb r ++ (vb m ++ [.bool l])
def DM.sec (m : DM) (s : Nat) : List Value := secC (m.rest.getD s []) (m.meant.getD s []) (m.lost.getD s false)
end
section
open Go Go.RowKit Go.ChangeShapes Go.WideShapes
theorem bs_of_row {w : World} {x : Addr} {n c : Nat} {zs : List Int} (hl : n ≤ c) (hm : c ≤ maxLen) (hz : zs.length = c) (hcell : ∀ i, i < zs.length → w.cell? (x.add i) = some (.int .u8 (zs.getD i 0))) (hwz : ∀ z ∈ zs, (Lit.int .u8 z).wf = true) :
    Bs w w.heap.size (some x) n c ((zs.take n).map Int.toNat) := by
  have hb : ∀ z ∈ zs, 0 ≤ z ∧ z < 256 := by
    intro z hzm
    have := bounds_u8 (hwz z hzm)
    omega
  refine ⟨by simp [hz, hl], hl, by unfold maxLen at hm; exact hm, ⟨?_, ?_⟩, fun h => by cases h⟩
  · intro b hbm
    simp only [List.mem_map] at hbm
    obtain ⟨z, hzm, rfl⟩ := hbm
    have := hb z (List.mem_of_mem_take hzm)
    omega
  · intro h0
    have hn : 0 < n := by
      rw [List.length_map, List.length_take] at h0
      omega
    obtain ⟨g, o, spot⟩ := x
    have hc := hcell 0 (by omega)
    have hspot : spot = none := by simpa [Addr.add] using World.cell?_spot hc
    subst hspot
    refine ⟨g, o, rfl, ?_, fun j y hy => ?_⟩
    · have := World.block_lt_of_cell? w _ hc
      simpa [Addr.add] using this
    · rw [List.getElem?_map] at hy
      obtain ⟨z, hzj, rfl⟩ := Option.map_eq_some_iff.1 hy
      have hjn : j < n ∧ zs[j]? = some z := by
        rw [List.getElem?_take] at hzj
        split at hzj
        · exact ⟨by assumption, hzj⟩
        · cases hzj
      have hzb := hb z (List.mem_of_getElem? hjn.2)
      have h2 := hcell j (by omega)
      rw [Addr.add_lit] at h2
      rw [h2, List.getD_eq_getElem?_getD, hjn.2]
      simp only [Option.getD_some]
      rw [Int.toNat_of_nonneg hzb.1]
end
section
open Go Go.RowKit Go.ChangeShapes Go.WideShapes Go.Deep
structure Act5 where
  kind : Nat := 0
  sec : Int := 0
  num : Int := 0
  bA : Option Addr := none
  bn : Nat := 0
  bc : Nat := 0
  bl : List Nat := []
  kA : Option Addr := none
  kn : Nat := 0
  kc : Nat := 0
  kl : List Bool := []
instance : Inhabited Act5 := ⟨{}⟩
section
variable {H : Type} {enc : TypeId × Value → H} {P : Program} {w : World} {base : Nat} {spare : Nat → Bool} {held : Bool}
end
end
section
open Go Go.RowKit Go.Shelf
attribute [local go_sem] Oper.semAt_some
end
section
open Go Go.RowKit Go.Shelf
attribute [local go_sem] Oper.semAt_some
theorem calls_marks {f : FuncId} {fn : Func} {c : Code} {args : Array Value} {w : World} {R : Ending → World → Prop} (hf : Tryd.prog.funcs[f]? = some fn) (hb : fn.body = some c)
    (h : c.wp Tryd.prog (bodyPostM Fence.wide 9 Tryd.prog fn R) { tmps := args ++ Array.replicate (fn.ntmps - args.size) undef, defers := [] } w) : Calls Tryd.prog f args w R :=
  (callsIn_wide (n := 9)).1 (callsIn_of_wp_marks hf hb trivial (wpIn_wide.2 h) rfl)
theorem retM0 {fn : Func} {R : Ending → World → Prop} {a : Act} {w : World} {v : Value} (hd : a.defers = []) (hr : (results fn a.tmps).run Tryd.prog w = .ok v w) (hR : R (.returned v) w) : bodyPostM Fence.wide 9 Tryd.prog fn R .ret a w := by
  show LeavesInM Fence.wide 9 Tryd.prog fn a.tmps R a.defers .returning w
  rw [hd]
  exact ⟨v, hr, hR⟩
theorem retM1 {fn : Func} {R : Ending → World → Prop} {a : Act} {w : World} {v : Value} {D : Nat} (hd : a.defers = [{ target := .collected D, args := #[] }]) (hK : w.heap[D]? = some (.deferred (some [])))
    (hr : (results fn a.tmps).run Tryd.prog (w.putObj D (.deferred none)) = .ok v (w.putObj D (.deferred none))) (hR : R (.returned v) (w.putObj D (.deferred none))) : bodyPostM Fence.wide 9 Tryd.prog fn R .ret a w := by
  show LeavesInM Fence.wide 9 Tryd.prog fn a.tmps R a.defers .returning w
  rw [hd]
  exact ⟨by simp, .inl ⟨_, _, rfl, run_takeDeferred hK, v, hr, hR⟩⟩
end
section
open Go Go.RowKit
section
variable {w : World} {d : Nat} {F : Nat → Prop} {m : DM}
end
end
section
open Go Go.RowKit Go.Shelf
attribute [local go_sem] Oper.semAt_some
theorem grown_of_ext {w w' : World} (h : Ext w w') : w.grownBy w' none := ⟨h.os, h.tape, h.output, h.size, fun k hk _ => h.block k hk⟩
theorem mod_cell {G : Nat → Prop} {w w' : World} (k : Mod G w w') {g i : Nat} {v : Value} (hg : ¬ G g) (h : w.cell? ⟨g, i, none⟩ = some v) : w'.cell? ⟨g, i, none⟩ = some v :=
  (World.cell?_of_block (a := ⟨g, i, none⟩) (k.block g (World.block_lt_of_cell? w _ h) hg)).trans h
theorem ext_of_cell {w w' : World} {g i : Nat} {v : Value} (h : Ext w w') (hc : w.cell? ⟨g, i, none⟩ = some v) : w'.cell? ⟨g, i, none⟩ = some v := (Below.cell h (p := ⟨g, i, none⟩) (World.block_lt_of_cell? w _ hc)).trans hc
theorem mod_put {G : Nat → Prop} {w W : World} (l : Nat) (o o' : Obj) (hG : ∀ k, w.heap.size ≤ k → G k) (hl : w.heap.size ≤ l) (_ : W.heap[l]? = some o) : Mod G W (W.putObj l o') :=
  (Mod.refl G W).grown (grownBy_putObj' W l o') (fun k e => by cases e; exact .inl (hG l hl))
end
section
open Go Go.RowKit Go.Shelf
attribute [local go_sem] Oper.semAt_some
def pcA (A : Option Addr) (c k : Nat) : Option Addr := if c = 80 * k then A else A.map fun a => a.add (80 * k)
def pcV (A : Option Addr) (n c k : Nat) : Value := .slice (pcA A c k) (min 80 (n - 80 * k)) (c - 80 * k)
theorem By.chunk {w : World} {A : Option Addr} {n c : Nat} {b : List Nat} (h : By w A n c b) (k : Nat) (hk : 80 * k ≤ n) : By w (pcA A c k) (min 80 (n - 80 * k)) (c - 80 * k) (chunkL b k) := by
  have hl := h.len
  have hcp := h.cap
  have hm := h.most
  by_cases hz : n = 80 * k
  · have hnil : chunkL b k = [] := by
      unfold chunkL
      rw [List.drop_of_length_le (by omega)]; rfl
    rw [hnil]
    refine ⟨by simp; omega, by omega, by omega, Rd.nil_, fun e => ?_⟩
    unfold pcA at e
    split at e
    · omega
    · rw [Option.map_eq_none_iff] at e
      have := Bs.nil_ h e
      omega
  · obtain ⟨g, o, hA, _⟩ := h.rd.2 (by omega)
    subst hA
    have e : pcA (some ⟨g, o, none⟩) c k = some ⟨g, o + 80 * k, none⟩ := by
      unfold pcA
      rw [if_neg (by omega), Option.map_some, Addr.add_lit]
    rw [e]
    unfold chunkL
    refine ⟨by rw [List.length_take, List.length_drop]; omega, by omega, by omega, (h.rd.drop rfl (80 * k)).take 80, fun e => by cases e⟩
theorem zcut_mid (A : Option Addr) (n c k : Nat) (h : 80 * k + 80 ≤ n) (hc : n ≤ c) (w : World) : (Instr.slice 22 (.slice A n c) (some (.int .i64 (80 * (k : Int)))) (some (.int .i64 (80 * (k : Int) + 80))) none).run Tryd.prog w = .ok (pcV A n c k) w := by
  have ht : Tryd.prog.elem 22 = 5 := by kernel_rfl
  rw [run_slice_lh w 22 A n c (by rw [ht]; exact Tryd.underlying22) .i64 .i64 (80 * (k : Int)) (80 * (k : Int) + 80) (by omega) (by omega) (by omega), u8_sizeZ]
  simp only [Result.andThen, sliced]
  rw [show (80 * (k : Int)).toNat = 80 * k by omega, show (80 * (k : Int) + 80).toNat = 80 * k + 80 by omega]
  unfold pcV pcA
  rw [show min 80 (n - 80 * k) = 80 * k + 80 - 80 * k by omega]
  simp
theorem zcut_end (A : Option Addr) (n c k : Nat) (h : 80 * k ≤ n) (h2 : n ≤ 80 * k + 80) (w : World) : (Instr.slice 22 (.slice A n c) (some (.int .i64 (80 * (k : Int)))) none none).run Tryd.prog w = .ok (pcV A n c k) w := by
  have ht : Tryd.prog.elem 22 = 5 := by kernel_rfl
  rw [run_slice_l w 22 A n c (by rw [ht]; exact Tryd.underlying22) .i64 (80 * (k : Int)) (by omega) (by omega), u8_sizeZ]
  simp only [Result.andThen, sliced]
  rw [show (80 * (k : Int)).toNat = 80 * k by omega]
  unfold pcV pcA
  rw [show min 80 (n - 80 * k) = n - 80 * k by omega]
  simp
abbrev PcIn (n : Nat) := { k : Nat // k < chunkN n }
def encPc (A : Option Addr) (n c : Nat) (x : PcIn n) : Array Value := #[pcV A n c x.1]
set_option maxHeartbeats 400000 in
theorem zpieces_of (A : Option Addr) (n c : Nat) (w : World) :
    Calls Tryd.prog 25 #[.slice A n c] w fun e w' => e = .returned (.func (.func 31) #[] #[.pointer (some ⟨w.heap.size, 0, none⟩)]) ∧ w' = w.alloc (.cells #[.slice A n c] 22) := by
  go_enter Tryd.func25, Tryd.ntmps25
  go_wp2
  go_ret
  exact ⟨rfl, rfl⟩
set_option maxHeartbeats 1600000 in
theorem zpieces1_in (n0 : Nat) (hn0 : 1 ≤ n0) (l bl : Nat) (G : Nat → Prop) (A : Option Addr) (n c : Nat) (hn9 : n ≤ 640) (hnc : n ≤ c) (J Jx : List (PcIn n) → World → Prop) (W0 V : World) (hV : Mod G W0 V)
    (hGf : ¬ G bl) (hcl : V.cell? ⟨bl, 0, none⟩ = some (.slice A n c))
    (hY : ∀ pre x W, J pre W → pre.length < chunkN n → YieldAt Fence.wide (n0 - 1) Tryd.prog l (encPc A n c x) W fun e W' =>
      (e = .returned (.bool true) ∧ J (pre ++ [x]) W' ∧ Mod G W W') ∨ (e = .returned (.bool false) ∧ Jx (pre ++ [x]) W')) (h0 : J [] V) :
    CallsIn Fence.wide n0 Tryd.prog 31 #[.func (.yield l) #[] #[], .pointer (some ⟨bl, 0, none⟩)] V fun e W' => (∃ v, e = .returned v) ∧
      ((∃ ys : List (PcIn n), ys.map (fun x => x.1) = List.range (chunkN n) ∧ J ys W') ∨ (∃ pre : List (PcIn n), True ∧ Jx pre W')) := by
  have HC := Lib.hid hcl
  have HG := Lib.hid hGf
  have HV := Lib.hid hV
  have HY := Lib.hid hY
  have HN : Hid ((1 ≤ chunkN n ∧ chunkN n ≤ 8 ∧ n ≤ 80 * chunkN n ∧ (2 ≤ chunkN n → 80 * (chunkN n - 1) < n))) := Lib.hid (chunkN_in hn9)
  clear hcl hV hY hGf
  refine callsIn_of_wp Tryd.func31 rfl trivial ?_ rfl
  simp only [Tryd.ntmps31, List.size_toArray, List.length_cons, List.length_nil, Nat.reduceAdd, Nat.reduceSub, Array.replicate_succ, Array.replicate_zero, List.push_toArray, List.append_toArray, List.nil_append, List.cons_append]
  gi_wp2
  gi_loopw [3] (fun i wr => ∃ (j : Nat) (pre : List (PcIn n)), j < chunkN n ∧ i = .int .i64 (80 * (j : Int)) ∧ Hid (pre.map (fun x => x.1) = List.range j) ∧ Hid (J pre wr) ∧ Hid (Mod G V wr)) (fun i _ => 1000 - (intOf i).toNat)
  case atStart => exact ⟨0, [], by have := HN.out; omega, rfl, Lib.hid rfl, Lib.hid h0, Lib.hid (Mod.refl _ _)⟩
  case round =>
    obtain ⟨j, pre, hj, rfl, HP, HJ, HM⟩ := hrel
    have hc0 : wr.cell? ⟨bl, 0, none⟩ = some (.slice A n c) := mod_cell HM.out HG.out HC.out
    have hj8 : j < 8 := by have := HN.out; omega
    obtain ⟨fn, tmps, assign, body, hy, hR⟩ := HY.out pre ⟨j, hj⟩ wr HJ.out (by have := congrArg List.length HP.out; simp at this; omega)
    have HR := Lib.hid hR
    have hy2 : (Instr.yield l #[pcV A n c j]).run Tryd.prog wr = .ok (.round l fn tmps assign body) wr := hy
    clear hR hy
    by_cases hlt : 80 < (n : Int) - 80 * (j : Int)
    · have hj2 : j + 1 < chunkN n := by have := HN.out; omega
      have hcut := fun W => zcut_mid A n c j (by omega) hnc W
      generalize pcV A n c j = pv at hcut hy2
      gi_wp2
      refine HR.out.mono ?_
      rintro e W4 (⟨rfl, hJ4, hM4⟩ | ⟨rfl, hJ4⟩)
      · have HJ4 := Lib.hid hJ4
        have HM4 : Hid (Mod G V W4) := Lib.hid (HM.out.trans hM4 fun _ hi => .inl hi)
        clear hJ4 hM4 hy2 hc0 hcut
        gi_wp2
        go_roundw
        case rel => exact ⟨j + 1, _, hj2, by go_num, Lib.hid (by rw [List.map_append, HP.out, List.range_succ]; rfl), HJ4, HM4⟩
        case measure => simp [intOf]; omega
      · have HJ4 := Lib.hid hJ4
        clear hJ4 hy2 hc0 hcut
        gi_wp2
        refine bodyPost_ret (results_none rfl _ _ _) rfl ?_
        exact ⟨⟨_, rfl⟩, .inr ⟨_, trivial, HJ4.out⟩⟩
    · have hj2 : j + 1 = chunkN n := by
        have h8 := HN.out
        by_cases h : j + 1 < chunkN n
        · have := h8.2.2.2 (by omega)
          have : 80 * (j + 1) ≤ 80 * (chunkN n - 1) := Nat.mul_le_mul_left _ (by omega)
          omega
        · omega
      have hjn : 80 * j ≤ n := by
        have h8 := HN.out
        by_cases h : j = 0
        · omega
        · have := h8.2.2.2 (by omega)
          have : 80 * j = 80 * (chunkN n - 1) := by rw [← hj2]; omega
          omega
      have hcut := fun W => zcut_end A n c j hjn (by omega) W
      generalize pcV A n c j = pv at hcut hy2
      gi_wp2
      refine HR.out.mono ?_
      rintro e W4 (⟨rfl, hJ4, hM4⟩ | ⟨rfl, hJ4⟩)
      · have HJ4 := Lib.hid hJ4
        clear hJ4 hM4 hy2 hc0 hcut
        gi_wp2
        go_end0
        exact ⟨⟨_, rfl⟩, .inl ⟨_, by rw [List.map_append, HP.out, show List.range (chunkN n) = List.range (j + 1) by rw [hj2], List.range_succ]; rfl, HJ4.out⟩⟩
      · have HJ4 := Lib.hid hJ4
        clear hJ4 hy2 hc0 hcut
        gi_wp2
        go_end0
        exact ⟨⟨_, rfl⟩, .inr ⟨_, trivial, HJ4.out⟩⟩
theorem zpieces_stops (n0 : Nat) (hn0 : 1 ≤ n0) (bl : Nat) (G : Nat → Prop) (A : Option Addr) (n c : Nat) (hn9 : n ≤ 640) (hnc : n ≤ c) (W0 : World) (hGf : ¬ G bl) (hcl : W0.cell? ⟨bl, 0, none⟩ = some (.slice A n c)) :
    SeqStopsK Fence.wide n0 Tryd.prog 31 #[.pointer (some ⟨bl, 0, none⟩)] (encPc A n c) (Mod G) (fun ys => ys.map (fun x => x.1) = List.range (chunkN n)) (fun _ => True) (chunkN n) W0 := fun l J Jx V hV hJ _ hY h0 => by
  have hx : Ext W0 V := hV
  have hm : Mod G W0 V := Mod.of_ext hx
  exact zpieces1_in n0 hn0 l bl G A n c hn9 hnc J Jx W0 V hm hGf (mod_cell hm hGf hcl) hY h0
end
section
open Go
theorem rowsIn_round {n l : Nat} {P : Program} {row : String} {args : Array Value} {w : World} {R : Value → World → Prop} (h : Rows P row args w R) : RowsIn (Fence.wide.inRound l) n P row args w R :=
  fun c cs _ => let ⟨v, w', r, s⟩ := h c cs; ⟨v, w', r, (stepsIn_wide.2 s : StepsIn (Machine.fenced P Fence.wide) P _ _)⟩
theorem op_in_round {n l : Nat} {P : Program} {o : Oper} {a : Act} {w : World} {K : Act → World → Prop} {Q : Exit → Act → World → Prop} (hd : ∀ c, o.op ≠ .defer c) (h : Oper.wp P o a w K Q) : Oper.wpIn (Fence.wide.inRound l) n P o a w K Q := by
  refine ⟨fun _ _ => trivial, ?_⟩
  rw [Fence.inRound_round, Oper.semAt_some l _ _ hd]
  unfold Oper.wp at h
  generalize (execOp a.eval o).run P w = r at h ⊢
  have hdp : (Fence.wide.inRound l).depth.isSome = true → 1 ≤ n := fun e => by cases e
  cases r with
  | ok x w' =>
    cases x <;> simp only [Oper.upon, Oper.uponIn] at h ⊢ <;>
      first
        | exact h
        | exact ⟨hdp, CallsIn.inRound l (callsIn_wide.2 h)⟩
        | exact ⟨hdp, rowsIn_round h⟩
        | exact h.elim
  | halt x w' => cases x <;> simp only [Oper.upon, Oper.uponIn] at h ⊢ <;> exact h
theorem step_in_round {n l : Nat} {P : Program} {o : Oper} {a : Act} {w : World} {K : Act → World → Prop} {Q : Exit → Act → World → Prop} {b : Bool} (hd : ∀ c, o.op ≠ .defer c) (h : if b = true then Oper.wp P o a w K Q else K (a.put o.dst undef) w) :
    if b = true then Oper.wpIn (Fence.wide.inRound l) n P o a w K Q else (∀ f, o.about P w a.eval = some f → (Fence.wide.inRound l).fn f) ∧ K (a.put o.dst undef) w := by
  cases b with
  | true => exact op_in_round hd h
  | false => exact ⟨fun _ _ => trivial, h⟩
end
section
open Go Go.RowKit Go.ChangeShapes Go.WideShapes Go.Deep
structure Lst where
  A : Option Addr := none
  n : Nat := 0
  c : Nat := 0
  l : List Nat := []
instance : Inhabited Lst := ⟨{}⟩
def Lst.Ok (a : Lst) (w : World) (B : Nat) : Prop := Bs w B a.A a.n a.c a.l
structure Lsts (w : World) (B : Nat) (A : Option Addr) (n c : Nat) (l : List Lst) : Prop where
  len : l.length = n
  cap : n ≤ c
  most : c ≤ 9223372036854775807
  each : ∀ a ∈ l, a.Ok w B
  rd : 0 < n → ∃ g o, A = some ⟨g, o, none⟩ ∧ g < B ∧ ∀ j a, l[j]? = some a → w.cell? ⟨g, o + j, none⟩ = some (.slice a.A a.n a.c)
  nil_ : A = none → c = 0
theorem Lsts.at_ {w : World} {B : Nat} {A : Option Addr} {n c : Nat} {l : List Lst} (h : Lsts w B A n c l) {j : Nat} (hj : j < n) : ∃ g o a, A = some ⟨g, o, none⟩ ∧ g < B ∧ l[j]? = some a ∧ Bs w B a.A a.n a.c a.l ∧
    w.cell? ⟨g, o + j, none⟩ = some (.slice a.A a.n a.c) := by
  obtain ⟨g, o, e, hg, hc⟩ := h.rd (by omega)
  have hj' : j < l.length := by rw [h.len]; exact hj
  have ha : l[j]? = some l[j] := List.getElem?_eq_getElem hj'
  exact ⟨g, o, l[j], e, hg, ha, h.each _ (List.getElem_mem hj'), hc j _ ha⟩
section
variable {H : Type} {enc : TypeId × Value → H} {P : Program} {w : World} {base : Nat} {spare : Nat → Bool} {held : Bool}
end
end
end Go.Proofs.YtnlappoocffcpaaDoor

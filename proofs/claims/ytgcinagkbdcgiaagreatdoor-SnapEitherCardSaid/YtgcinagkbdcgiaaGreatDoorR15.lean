/-
  The contract of chunk's pieces, as an iterator: the chunks of bytes, in their memory, come in order.
-/
import Derived.Test.YtgcinagkbdcgiaaGreatDoorR00
import Derived.Test.YtgcinagkbdcgiaaGreatDoorR03
import Derived.Test.YtgcinagkbdcgiaaGreatDoorR06
import Derived.Test.YtgcinagkbdcgiaaGreatDoorR13
import Derived.Deep.DeepCutAuto
import Derived.RangeFuncNested
import Derived.RangeFuncBound
import Derived.RangeFuncCalls
import Derived.RangeFuncLeaves
import Derived.Shelf.Abstract
import Derived.Shelf.RegionOpen
import Derived.WalkKit
import Derived.OwnWalkIn
import Derived.TacticsInMore
import Derived.LoopNIn
import Derived.LoopIn
import Derived.OrdersIn
import Derived.TacticsIn
import Derived.Laws.IdiomArrays
namespace Go.Proofs.YtgcinagkbdcgiaaGreatDoor
set_option maxRecDepth 100000
section
open Go Go.RowKit Go.Shelf
attribute [local go_sem] Oper.semAt_some
def pcA (A : Option Addr) (c k : Nat) : Option Addr := if c = 80 * k then A else A.map fun a => a.add (80 * k)
def pcV (A : Option Addr) (n c k : Nat) : Value := .slice (pcA A c k) (min 80 (n - 80 * k)) (c - 80 * k)
theorem By.chunk {w : World} {A : Option Addr} {n c : Nat} {b : List Nat} (h : By w A n c b) (k : Nat) (hk : 80 * k ≤ n) : By w (pcA A c k) (min 80 (n - 80 * k)) (c - 80 * k) (chunkL b k) := by
  have hl := h.len
  have hcp := h.cap
  have hm := h.most
  by_cases hz : n = 80 * k
  · have hnil : chunkL b k = [] := by
      unfold chunkL
      rw [List.drop_of_length_le (by omega)]; rfl
    rw [hnil]
    refine ⟨by simp; omega, by omega, by omega, Rd.nil_, fun e => ?_⟩
    unfold pcA at e
    split at e
    · omega
    · rw [Option.map_eq_none_iff] at e
      have := Bs.nil_ h e
      omega
  · obtain ⟨g, o, hA, _⟩ := h.rd.2 (by omega)
    subst hA
    have e : pcA (some ⟨g, o, none⟩) c k = some ⟨g, o + 80 * k, none⟩ := by
      unfold pcA
      rw [if_neg (by omega), Option.map_some, Addr.add_lit]
    rw [e]
    unfold chunkL
    refine ⟨by rw [List.length_take, List.length_drop]; omega, by omega, by omega, (h.rd.drop rfl (80 * k)).take 80, fun e => by cases e⟩
theorem zcut_mid (A : Option Addr) (n c k : Nat) (h : 80 * k + 80 ≤ n) (hc : n ≤ c) (w : World) : (Instr.slice 45 (.slice A n c) (some (.int .i64 (80 * (k : Int)))) (some (.int .i64 (80 * (k : Int) + 80))) none).run Tryz.prog w = .ok (pcV A n c k) w := by
  have ht : Tryz.prog.elem 45 = 5 := by kernel_rfl
  rw [run_slice_lh w 45 A n c (by rw [ht]; exact Tryz.underlying45) .i64 .i64 (80 * (k : Int)) (80 * (k : Int) + 80) (by omega) (by omega) (by omega), u8_sizeZ]
  simp only [Result.andThen, sliced]
  rw [show (80 * (k : Int)).toNat = 80 * k by omega, show (80 * (k : Int) + 80).toNat = 80 * k + 80 by omega]
  unfold pcV pcA
  rw [show min 80 (n - 80 * k) = 80 * k + 80 - 80 * k by omega]
  simp
theorem zcut_end (A : Option Addr) (n c k : Nat) (h : 80 * k ≤ n) (h2 : n ≤ 80 * k + 80) (w : World) : (Instr.slice 45 (.slice A n c) (some (.int .i64 (80 * (k : Int)))) none none).run Tryz.prog w = .ok (pcV A n c k) w := by
  have ht : Tryz.prog.elem 45 = 5 := by kernel_rfl
  rw [run_slice_l w 45 A n c (by rw [ht]; exact Tryz.underlying45) .i64 (80 * (k : Int)) (by omega) (by omega), u8_sizeZ]
  simp only [Result.andThen, sliced]
  rw [show (80 * (k : Int)).toNat = 80 * k by omega]
  unfold pcV pcA
  rw [show min 80 (n - 80 * k) = n - 80 * k by omega]
  simp
abbrev PcIn (n : Nat) := { k : Nat // k < chunkN n }
def encPc (A : Option Addr) (n c : Nat) (x : PcIn n) : Array Value := #[pcV A n c x.1]
set_option maxHeartbeats 400000 in
theorem zpieces_of (A : Option Addr) (n c : Nat) (w : World) :
    Calls Tryz.prog 186 #[.slice A n c] w fun e w' => e = .returned (.func (.func 238) #[] #[.pointer (some ⟨w.heap.size, 0, none⟩)]) ∧ w' = w.alloc (.cells #[.slice A n c] 45) := by
  go_enter Tryz.func186, Tryz.ntmps186
  go_wp2
  go_ret
  exact ⟨rfl, rfl⟩
set_option maxHeartbeats 1600000 in
theorem zpieces1_in (n0 : Nat) (hn0 : 1 ≤ n0) (l bl : Nat) (G : Nat → Prop) (A : Option Addr) (n c : Nat) (hn9 : n ≤ 640) (hnc : n ≤ c) (J Jx : List (PcIn n) → World → Prop) (W0 V : World) (hV : Mod G W0 V)
    (hGf : ¬ G bl) (hcl : V.cell? ⟨bl, 0, none⟩ = some (.slice A n c))
    (hY : ∀ pre x W, J pre W → pre.length < chunkN n → YieldAt Fence.wide (n0 - 1) Tryz.prog l (encPc A n c x) W fun e W' =>
      (e = .returned (.bool true) ∧ J (pre ++ [x]) W' ∧ Mod G W W') ∨ (e = .returned (.bool false) ∧ Jx (pre ++ [x]) W')) (h0 : J [] V) :
    CallsIn Fence.wide n0 Tryz.prog 238 #[.func (.yield l) #[] #[], .pointer (some ⟨bl, 0, none⟩)] V fun e W' => (∃ v, e = .returned v) ∧
      ((∃ ys : List (PcIn n), ys.map (fun x => x.1) = List.range (chunkN n) ∧ J ys W') ∨ (∃ pre : List (PcIn n), True ∧ Jx pre W')) := by
  have HC := Lib.hid hcl
  have HG := Lib.hid hGf
  have HV := Lib.hid hV
  have HY := Lib.hid hY
  have HN : Hid ((1 ≤ chunkN n ∧ chunkN n ≤ 8 ∧ n ≤ 80 * chunkN n ∧ (2 ≤ chunkN n → 80 * (chunkN n - 1) < n))) := Lib.hid (chunkN_in hn9)
  clear hcl hV hY hGf
  refine callsIn_of_wp Tryz.func238 rfl trivial ?_ rfl
  simp only [Tryz.ntmps238, List.size_toArray, List.length_cons, List.length_nil, Nat.reduceAdd, Nat.reduceSub, Array.replicate_succ, Array.replicate_zero, List.push_toArray, List.append_toArray, List.nil_append, List.cons_append]
  gi_wp2
  gi_loopw [3] (fun i wr => ∃ (j : Nat) (pre : List (PcIn n)), j < chunkN n ∧ i = .int .i64 (80 * (j : Int)) ∧ Hid (pre.map (fun x => x.1) = List.range j) ∧ Hid (J pre wr) ∧ Hid (Mod G V wr)) (fun i _ => 1000 - (intOf i).toNat)
  case atStart => exact ⟨0, [], by have := HN.out; omega, rfl, Lib.hid rfl, Lib.hid h0, Lib.hid (Mod.refl _ _)⟩
  case round =>
    obtain ⟨j, pre, hj, rfl, HP, HJ, HM⟩ := hrel
    have hc0 : wr.cell? ⟨bl, 0, none⟩ = some (.slice A n c) := mod_cell HM.out HG.out HC.out
    have hj8 : j < 8 := by have := HN.out; omega
    obtain ⟨fn, tmps, assign, body, hy, hR⟩ := HY.out pre ⟨j, hj⟩ wr HJ.out (by have := congrArg List.length HP.out; simp at this; omega)
    have HR := Lib.hid hR
    have hy2 : (Instr.yield l #[pcV A n c j]).run Tryz.prog wr = .ok (.round l fn tmps assign body) wr := hy
    clear hR hy
    by_cases hlt : 80 < (n : Int) - 80 * (j : Int)
    · have hj2 : j + 1 < chunkN n := by have := HN.out; omega
      have hcut := fun W => zcut_mid A n c j (by omega) hnc W
      generalize pcV A n c j = pv at hcut hy2
      gi_wp2
      refine HR.out.mono ?_
      rintro e W4 (⟨rfl, hJ4, hM4⟩ | ⟨rfl, hJ4⟩)
      · have HJ4 := Lib.hid hJ4
        have HM4 : Hid (Mod G V W4) := Lib.hid (HM.out.trans hM4 fun _ hi => .inl hi)
        clear hJ4 hM4 hy2 hc0 hcut
        gi_wp2
        go_roundw
        case rel => exact ⟨j + 1, _, hj2, by go_num, Lib.hid (by rw [List.map_append, HP.out, List.range_succ]; rfl), HJ4, HM4⟩
        case measure => simp [intOf]; omega
      · have HJ4 := Lib.hid hJ4
        clear hJ4 hy2 hc0 hcut
        gi_wp2
        refine bodyPost_ret (results_none rfl _ _ _) rfl ?_
        exact ⟨⟨_, rfl⟩, .inr ⟨_, trivial, HJ4.out⟩⟩
    · have hj2 : j + 1 = chunkN n := by
        have h8 := HN.out
        by_cases h : j + 1 < chunkN n
        · have := h8.2.2.2 (by omega)
          have : 80 * (j + 1) ≤ 80 * (chunkN n - 1) := Nat.mul_le_mul_left _ (by omega)
          omega
        · omega
      have hjn : 80 * j ≤ n := by
        have h8 := HN.out
        by_cases h : j = 0
        · omega
        · have := h8.2.2.2 (by omega)
          have : 80 * j = 80 * (chunkN n - 1) := by rw [← hj2]; omega
          omega
      have hcut := fun W => zcut_end A n c j hjn (by omega) W
      generalize pcV A n c j = pv at hcut hy2
      gi_wp2
      refine HR.out.mono ?_
      rintro e W4 (⟨rfl, hJ4, hM4⟩ | ⟨rfl, hJ4⟩)
      · have HJ4 := Lib.hid hJ4
        clear hJ4 hM4 hy2 hc0 hcut
        gi_wp2
        go_end0
        exact ⟨⟨_, rfl⟩, .inl ⟨_, by rw [List.map_append, HP.out, show List.range (chunkN n) = List.range (j + 1) by rw [hj2], List.range_succ]; rfl, HJ4.out⟩⟩
      · have HJ4 := Lib.hid hJ4
        clear hJ4 hy2 hc0 hcut
        gi_wp2
        go_end0
        exact ⟨⟨_, rfl⟩, .inr ⟨_, trivial, HJ4.out⟩⟩
theorem zpieces_stops (n0 : Nat) (hn0 : 1 ≤ n0) (bl : Nat) (G : Nat → Prop) (A : Option Addr) (n c : Nat) (hn9 : n ≤ 640) (hnc : n ≤ c) (W0 : World) (hGf : ¬ G bl) (hcl : W0.cell? ⟨bl, 0, none⟩ = some (.slice A n c)) :
    SeqStopsK Fence.wide n0 Tryz.prog 238 #[.pointer (some ⟨bl, 0, none⟩)] (encPc A n c) (Mod G) (fun ys => ys.map (fun x => x.1) = List.range (chunkN n)) (fun _ => True) (chunkN n) W0 := fun l J Jx V hV hJ _ hY h0 => by
  have hx : Ext W0 V := hV
  have hm : Mod G W0 V := Mod.of_ext hx
  exact zpieces1_in n0 hn0 l bl G A n c hn9 hnc J Jx W0 V hm hGf (mod_cell hm hGf hcl) hY h0
end
section
open Go
theorem rowsIn_round {n l : Nat} {P : Program} {row : String} {args : Array Value} {w : World} {R : Value → World → Prop} (h : Rows P row args w R) : RowsIn (Fence.wide.inRound l) n P row args w R :=
  fun c cs _ => let ⟨v, w', r, s⟩ := h c cs; ⟨v, w', r, (stepsIn_wide.2 s : StepsIn (Machine.fenced P Fence.wide) P _ _)⟩
theorem op_in_round {n l : Nat} {P : Program} {o : Oper} {a : Act} {w : World} {K : Act → World → Prop} {Q : Exit → Act → World → Prop} (hd : ∀ c, o.op ≠ .defer c) (h : Oper.wp P o a w K Q) : Oper.wpIn (Fence.wide.inRound l) n P o a w K Q := by
  refine ⟨fun _ _ => trivial, ?_⟩
  rw [Fence.inRound_round, Oper.semAt_some l _ _ hd]
  unfold Oper.wp at h
  generalize (execOp a.eval o).run P w = r at h ⊢
  have hdp : (Fence.wide.inRound l).depth.isSome = true → 1 ≤ n := fun e => by cases e
  cases r with
  | ok x w' =>
    cases x <;> simp only [Oper.upon, Oper.uponIn] at h ⊢ <;>
      first
        | exact h
        | exact ⟨hdp, CallsIn.inRound l (callsIn_wide.2 h)⟩
        | exact ⟨hdp, rowsIn_round h⟩
        | exact h.elim
  | halt x w' => cases x <;> simp only [Oper.upon, Oper.uponIn] at h ⊢ <;> exact h
theorem step_in_round {n l : Nat} {P : Program} {o : Oper} {a : Act} {w : World} {K : Act → World → Prop} {Q : Exit → Act → World → Prop} {b : Bool} (hd : ∀ c, o.op ≠ .defer c) (h : if b = true then Oper.wp P o a w K Q else K (a.put o.dst undef) w) :
    if b = true then Oper.wpIn (Fence.wide.inRound l) n P o a w K Q else (∀ f, o.about P w a.eval = some f → (Fence.wide.inRound l).fn f) ∧ K (a.put o.dst undef) w := by
  cases b with
  | true => exact op_in_round hd h
  | false => exact ⟨fun _ _ => trivial, h⟩
end
section
open Go Go.RowKit Go.ChangeShapes Go.WideShapes Go.Deep
structure Lst where
  A : Option Addr := none
  n : Nat := 0
  c : Nat := 0
  l : List Nat := []
instance : Inhabited Lst := ⟨{}⟩
def Lst.Ok (a : Lst) (w : World) (B : Nat) : Prop := Bs w B a.A a.n a.c a.l
structure Lsts (w : World) (B : Nat) (A : Option Addr) (n c : Nat) (l : List Lst) : Prop where
  len : l.length = n
  cap : n ≤ c
  most : c ≤ 9223372036854775807
  each : ∀ a ∈ l, a.Ok w B
  rd : 0 < n → ∃ g o, A = some ⟨g, o, none⟩ ∧ g < B ∧ ∀ j a, l[j]? = some a → w.cell? ⟨g, o + j, none⟩ = some (.slice a.A a.n a.c)
  nil_ : A = none → c = 0
theorem Lsts.below {w w' : World} {B : Nat} {A : Option Addr} {n c : Nat} {l : List Lst} (h : Lsts w B A n c l) (hb : Below B w w') : Lsts w' B A n c l :=
  ⟨h.len, h.cap, h.most, fun a ha => (h.each a ha).below hb, fun hn => by
    obtain ⟨g, o, e, hg, hc⟩ := h.rd hn
    exact ⟨g, o, e, hg, fun j a ha => (hb.cell (p := ⟨g, o + j, none⟩) hg).trans (hc j a ha)⟩, h.nil_⟩
theorem Lsts.more {w : World} {B B' : Nat} {A : Option Addr} {n c : Nat} {l : List Lst} (h : Lsts w B A n c l) (hB : B ≤ B') : Lsts w B' A n c l :=
  ⟨h.len, h.cap, h.most, fun a ha => (h.each a ha).more hB, fun hn => by
    obtain ⟨g, o, e, hg, hc⟩ := h.rd hn
    exact ⟨g, o, e, by omega, hc⟩, h.nil_⟩
theorem Lsts.at_ {w : World} {B : Nat} {A : Option Addr} {n c : Nat} {l : List Lst} (h : Lsts w B A n c l) {j : Nat} (hj : j < n) : ∃ g o a, A = some ⟨g, o, none⟩ ∧ g < B ∧ l[j]? = some a ∧ Bs w B a.A a.n a.c a.l ∧
    w.cell? ⟨g, o + j, none⟩ = some (.slice a.A a.n a.c) := by
  obtain ⟨g, o, e, hg, hc⟩ := h.rd (by omega)
  have hj' : j < l.length := by rw [h.len]; exact hj
  have ha : l[j]? = some l[j] := List.getElem?_eq_getElem hj'
  exact ⟨g, o, l[j], e, hg, ha, h.each _ (List.getElem_mem hj'), hc j _ ha⟩
section
variable {H : Type} {enc : TypeId × Value → H} {P : Program} {w : World} {base : Nat} {spare : Nat → Bool} {held : Bool}
theorem trod_lists {t e b : TypeId} {fuel : Nat} {cs : List Value} {x : DataW H × List MemPlace} (ht : P.underlying t = some (.slice e)) (he : P.underlying e = some (.slice b)) (hb : P.underlying b = some (.int .u8)) (hce : P.cellsOf e = 1) (hcb : P.cellsOf b = 1)
    (hsp : ∀ g, spare g = true) (h : DataW.trod enc P w base spare held fuel t cs = some x) : ∃ (A : Option Addr) (n c : Nat) (l : List Lst), cs = [.slice A n c] ∧ Lsts w w.heap.size A n c l := by
  rcases open_slice1 ht hce h with ⟨rfl, _⟩ | ⟨a, len, cap, m, n, V, D, Pl, rfl, _, hl, hm, hmm, _, hi⟩
  · exact ⟨none, 0, 0, [], rfl, rfl, Nat.le_refl _, by omega, fun a ha => (by cases ha), fun h => absurd h (by omega), fun _ => rfl⟩
  · have hle : len ≤ m := by rw [hmm]; split <;> omega
    have each : ∀ i, i < len → ∃ q : Lst, w.cell? (a.add i) = some (.slice q.A q.n q.c) ∧ q.Ok w w.heap.size := fun i hil => by
      obtain ⟨h1, h2⟩ := hi i (by omega)
      obtain ⟨A, k, c, l, hcs, hok⟩ := trod_bytes he hb hcb hsp h2
      injection hcs with hcs
      rw [hcs] at h1
      exact ⟨⟨A, k, c, l⟩, h1, hok⟩
    obtain ⟨f, hf⟩ := choose_lt each
    refine ⟨some a, len, cap, (List.range len).map f, rfl, by simp, hl, by unfold maxLen at hm; exact hm, fun b hb => ?_, fun hn => ?_, fun h => by cases h⟩
    · obtain ⟨i, hil, rfl⟩ := List.mem_map.1 hb
      exact (hf i (List.mem_range.1 hil)).2
    · obtain ⟨g, o, spot⟩ := a
      have hc := (hf 0 hn).1
      have hspot : spot = none := by simpa [Addr.add] using World.cell?_spot hc
      subst hspot
      refine ⟨g, o, rfl, ?_, fun j b hb => ?_⟩
      · have := World.block_lt_of_cell? w _ hc
        simpa [Addr.add] using this
      · rw [List.getElem?_map] at hb
        obtain ⟨i, hi2, rfl⟩ := Option.map_eq_some_iff.1 hb
        obtain ⟨hjl, hji⟩ := List.getElem?_eq_some_iff.1 hi2
        simp at hjl hji
        subst hji
        have := (hf j hjl).1
        rwa [Addr.add_lit] at this
theorem open_lists {t e b : TypeId} (ht : P.underlying t = some (.slice e)) (he : P.underlying e = some (.slice b)) (hb : P.underlying b = some (.int .u8)) (hce : P.cellsOf e = 1) (hcb : P.cellsOf b = 1) {r : Reach} {b0 : Nat} {v : Value} {d : DataW H} {p : List MemPlace}
    (hv : Value.okWide P w r b0 t v) (h : DataW.Trod enc P w base (fun _ => true) held t v d p) : ∃ (A : Option Addr) (n c : Nat) (l : List Lst), v = .slice A n c ∧ Lsts w w.heap.size A n c l := by
  obtain ⟨A, n, c, rfl⟩ := okWide_slice ht hv
  obtain ⟨fuel, hf⟩ := h
  obtain ⟨A', n', c', l, hcs, hl⟩ := trod_lists ht he hb hce hcb (fun _ => rfl) hf
  simp [Value.cells] at hcs
  obtain ⟨rfl, rfl, rfl⟩ := hcs
  exact ⟨_, _, _, l, rfl, hl⟩
end
end
end Go.Proofs.YtgcinagkbdcgiaaGreatDoor

/-
  The contract of Join (and of the library's Grow and Concat at bytes, which it calls): new memory that holds the lists one behind the other.
-/
import Derived.Test.YtnlappoocffcpaaX00
import Derived.Test.YtnlappoocffcpaaX01
import Derived.Test.YtnlappoocffcpaaProg
import Derived.Lib.AppendZeros
import Derived.OwnWalk
import Derived.Outline
import Derived.WalkKit
import Derived.WalkSpells
import Derived.BigQuiet
import Derived.Lib.Hide
import Derived.Laws.Bits64
import Derived.Deep.DeepFit
import Derived.Laws.BitsAllLaws
import Derived.WalkLawsBesides
import Derived.Deep.QuietTactic
import Derived.Laws.OwnMore
import Derived.Deep.RegionHeld3
import Derived.Lib.SmallJoins
import Derived.Deep.MidRow
import Derived.LaidEqlPtr
import Derived.Deep.WholeRow
import Derived.StillTailTactics
import Derived.Laws.Tables
import Derived.RangeFuncNested
import Derived.RangeFuncBound
import Derived.RangeFuncCalls
import Derived.RangeFuncLeaves
import Derived.Shelf.Abstract
import Derived.Shelf.RegionOpen
import Derived.OwnWalkIn
import Derived.TacticsInMore
import Derived.LoopNIn
import Derived.LoopIn
import Derived.Laws.CopyOwn
import Derived.Deep.AppendLies
import Derived.Deep.DeepCutAuto
import Derived.OrdersIn
import Derived.TacticsIn
namespace Go.Proofs.Ytnlappoocffcpaa
set_option maxRecDepth 100000
section
open Go Go.RowKit
theorem size_zeroCells_one (n : Nat) (z : Value) : (Builtin.zeroCells #[z] n).size = n := by
  simp [Builtin.zeroCells]
set_option maxHeartbeats 800000 in
theorem grow_nil (n : Nat) (w : World) (hn : n ≤ 140737488355328) :
    Calls Try.prog 44 #[.slice none 0 0, .int .i64 n] w fun e w' => ∃ v, e = .returned v ∧ w'.ownsRow w.heap.size 5 1 v 0 [] ∧ Below w.heap.size w w' := by
  obtain ⟨i0, hi, hz0, hz1, hz2⟩ := info_parts byte_info
  by_cases h0 : n = 0
  · subst h0
    go_enter Try.func44, Try.ntmps44
    go_wp2_with fail
    go_ret
    exact ⟨_, rfl, World.ownsRow_nil _ _ _ _, Below.refl _ _⟩
  · have hrun := fun ty => Lib.run_append_nil_zeros (P := Try.prog) w 22 3 ty 5 i0 (.int .u8 0) .i64 .i64 Try.underlying22 Try.underlying3 hi hz0 n (by omega) (by omega) (by omega) (by rw [hz2]; omega)
    have HR := Lib.hid hrun
    clear hrun
    have hcap := grownCap_le_maxLen w n 0 5 (by unfold maxLen; omega)
    have hge := grownCap_ge w n 0 5
    have hcs : (Builtin.zeroCells (Value.int .u8 0).cells n ++ Builtin.zeroCells (Value.int .u8 0).cells (grownCap w n 0 5 - n)).size = grownCap w n 0 5 * 1 := by
      have e : (Value.int IntKind.u8 0).cells = #[Value.int .u8 0] := rfl
      rw [e, Array.size_append, size_zeroCells_one, size_zeroCells_one]
      omega
    have HC := Lib.hid hcs
    clear hcs
    have hmx := hcap
    unfold maxLen at hmx
    generalize hgc : grownCap w n 0 5 = gc at *
    generalize hcells : (Builtin.zeroCells (Value.int .u8 0).cells n ++ Builtin.zeroCells (Value.int .u8 0).cells (gc - n)) = cells at *
    have HM := Lib.hid hcap
    clear hgc hcells hcap
    go_enter Try.func44, Try.ntmps44
    go_wp2_with (at_builtin; refine Lib.wpList_append_run _ rfl _ _ _ _ rfl _ _ rfl rfl _ _ (HR.out _) ?_)
    go_ret
    exact ⟨_, rfl, (World.ownsRow_made w cells gc (Nat.le_refl _) HM.out HC.out), ((Below.refl _ _).alloc (Nat.le_refl _) _).drew⟩
def cat (ps : List (Value × List Nat)) : List Nat := ps.flatMap (·.2)
theorem cat_step {ps : List (Value × List Nat)} {k : Nat} {p : Value × List Nat} (h : ps[k]? = some p) : cat (ps.take (k + 1)) = cat (ps.take k) ++ p.2 := by
  unfold cat
  rw [List.take_add_one, h, Option.toList_some, List.flatMap_append]
  simp
theorem cat_take_le (ps : List (Value × List Nat)) (k : Nat) : (cat (ps.take k)).length ≤ (cat ps).length := by
  have e : cat ps = cat (ps.take k) ++ cat (ps.drop k) := by
    unfold cat
    rw [← List.flatMap_append, List.take_append_drop]
  rw [e, List.length_append]
  omega
structure Parts (w : World) (B : Nat) (G : Option Addr) (m : Nat) (ps : List (Value × List Nat)) : Prop where
  len : ps.length = m
  at_ : 0 < m → ∃ g o, G = some ⟨g, o, none⟩ ∧ g < B ∧ ∀ j p, ps[j]? = some p → w.cell? ⟨g, o + j, none⟩ = some p.1
  each : ∀ p ∈ ps, ∃ A n c, p.1 = .slice A n c ∧ Bs w B A n c p.2
theorem Parts.below {w w' : World} {B : Nat} {G : Option Addr} {m : Nat} {ps : List (Value × List Nat)} (h : Parts w B G m ps) (hb : Below B w w') : Parts w' B G m ps := by
  refine ⟨h.len, fun hm => ?_, fun p hp => ?_⟩
  · obtain ⟨g, o, e, hg, hc⟩ := h.at_ hm
    exact ⟨g, o, e, hg, fun j p hp => (hb.cell (p := ⟨g, o + j, none⟩) hg).trans (hc j p hp)⟩
  · obtain ⟨A, n, c, e, hbs⟩ := h.each p hp
    exact ⟨A, n, c, e, hbs.below hb⟩
theorem Parts.get {w : World} {B : Nat} {G : Option Addr} {m : Nat} {ps : List (Value × List Nat)} (h : Parts w B G m ps) {k : Nat} (hk : k < m) :
    ∃ g o A n c l, G = some ⟨g, o, none⟩ ∧ g < B ∧ ps[k]? = some (.slice A n c, l) ∧ w.cell? ⟨g, o + k, none⟩ = some (.slice A n c) ∧ Bs w B A n c l := by
  obtain ⟨g, o, e, hg, hc⟩ := h.at_ (by omega)
  have hk' : k < ps.length := by rw [h.len]; exact hk
  obtain ⟨A, n, c, e1, hbs⟩ := h.each ps[k] (List.getElem_mem hk')
  have hp : ps[k]? = some (.slice A n c, ps[k].2) := by rw [List.getElem?_eq_getElem hk', ← e1]
  exact ⟨g, o, A, n, c, ps[k].2, e, hg, hp, hc k _ hp, hbs⟩
theorem cat_len_step {ps : List (Value × List Nat)} {k n : Nat} {v : Value} {l : List Nat} (h : ps[k]? = some (v, l)) (hl : l.length = n) : (cat (ps.take (k + 1))).length = (cat (ps.take k)).length + n := by
  rw [cat_step h, List.length_append, hl]
theorem concat_step {w wr w1 : World} {ps : List (Value × List Nat)} {k n : Nat} {v v1 u : Value} {l : List Nat} (hp : ps[k]? = some (u, l)) (hl : l.length = n)
    (hown : wr.ownsRow w.heap.size 5 1 v (cat (ps.take k)).length (vb (cat (ps.take k)))) (hbel : Below w.heap.size w wr)
    (hown1 : w1.ownsRow w.heap.size 5 1 v1 ((cat (ps.take k)).length + n) (vb (cat (ps.take k)) ++ vb l)) (hg : wr.grownBy w1 v.ownBlock) :
    w1.ownsRow w.heap.size 5 1 v1 (cat (ps.take (k + 1))).length (vb (cat (ps.take (k + 1)))) ∧ Below w.heap.size w w1 := by
  refine ⟨?_, ?_⟩
  · rw [cat_len_step hp hl, cat_step hp, vb_append]
    exact hown1
  · refine hbel.grown hg hbel.size ?_
    intro g hg'
    exact (hown.lt g hg').1
set_option maxHeartbeats 2000000 in
theorem concat_any (G : Option Addr) (m c : Nat) (ps : List (Value × List Nat)) (w : World) (hp : Parts w w.heap.size G m ps) (hm : m ≤ 9000000000000000000) (ht : (cat ps).length ≤ 140737488355328) :
    Calls Try.prog 41 #[.slice G m c] w fun e w' => ∃ A' c', e = .returned (.slice A' (cat ps).length c') ∧ w'.ownsRow w.heap.size 5 1 (.slice A' (cat ps).length c') (cat ps).length (vb (cat ps)) ∧ Below w.heap.size w w' := by
  obtain ⟨i0, hi, hz0, hz1, hz2⟩ := info_parts byte_info
  have HP := Lib.hid hp
  clear hp
  go_enter Try.func41, Try.ntmps41
  go_wp2_with fail
  go_loop [3, 11] (fun s i => ∃ k : Nat, k ≤ m ∧ i = .int .i64 k ∧ s = .int .i64 (((cat (ps.take k)).length : Nat) : Int)) (fun _ i => m - (intOf i).toNat)
  case atStart => exact ⟨0, Nat.zero_le _, rfl, rfl⟩
  case round =>
    obtain ⟨k, hk, rfl, rfl⟩ := hrel
    by_cases hlt : k < m
    · obtain ⟨g, o, A, n, c1, l, hG, _, hpk, hcell, hbs⟩ := HP.out.get hlt
      subst hG
      have HS := Lib.hid (cat_len_step hpk hbs.len)
      have hle : (cat (ps.take (k + 1))).length ≤ (cat ps).length := cat_take_le ps (k + 1)
      rw [HS.out] at hle
      clear hpk hbs
      generalize hsn : (cat (ps.take k)).length = sn at *
      clear hsn
      go_wp2_with fail
      go_round
      case rel => exact ⟨k + 1, by omega, by go_num, by rw [HS.out]; go_num⟩
      case measure => simp [intOf]; omega
    · have HK : Hid (k = m) := Lib.hid (by omega)
      have e0 : cat (ps.take k) = cat ps := by rw [HK.out, List.take_of_length_le (by rw [HP.out.len]; exact Nat.le_refl _)]
      rw [e0]
      clear e0
      go_wp2_with fail
      refine (grow_nil (cat ps).length _ ht).mono ?_
      rintro e w1 ⟨v1, rfl, hown1, hbel1⟩
      have HO1 := Lib.hid hown1
      have HB1 := Lib.hid hbel1
      clear hown1 hbel1 HK
      go_wp2_with fail
      go_loopw [6, 27] (fun v i wr => ∃ k : Nat, k ≤ m ∧ i = .int .i64 k ∧ Hid (wr.ownsRow w.heap.size 5 1 v (cat (ps.take k)).length (vb (cat (ps.take k)))) ∧ Hid (Below w.heap.size w wr)) (fun _ i _ => m - (intOf i).toNat)
      case atStart => exact ⟨0, Nat.zero_le _, rfl, HO1, HB1⟩
      case round =>
        obtain ⟨k, hk, rfl, HO, HB⟩ := hrel
        by_cases hlt : k < m
        · obtain ⟨g, o, A, n, c1, l, hG, _, hpk, hcell, hbs⟩ := (HP.out.below HB.out).get hlt
          subst hG
          have HBS := Lib.hid hbs
          have HPK := Lib.hid hpk
          have hle : (cat (ps.take (k + 1))).length ≤ (cat ps).length := cat_take_le ps (k + 1)
          rw [cat_len_step hpk hbs.len] at hle
          have hsz := HB.out.size
          clear hpk hbs
          rcases A with _ | ad
          · have hc0 : c1 = 0 := HBS.out.nil_ rfl
            subst hc0
            have hn0 : n = 0 := by have := HBS.out.cap; omega
            subst hn0
            have hl0 : l = [] := List.eq_nil_of_length_eq_zero HBS.out.len
            subst hl0
            go_wp2_with (at_builtin; refine wpList_append_own_none rfl _ _ 22 rfl w.heap.size 5 i0 1 Try.underlying22 hi _ _ _ rfl HO.out rfl ?_)
            go_roundw
            case rel => exact ⟨k + 1, by omega, by go_num, Lib.hid (by have h := HO.out; rw [cat_step HPK.out]; simpa using h), HB⟩
            case measure => simp [intOf]; omega
          · go_wp2_with (at_builtin; refine wpList_append_own _ rfl _ _ 22 rfl w.heap.size 5 i0 (.int .u8 0) 1 1 Try.underlying22 hi hz0 hz1 hz2 rfl (by decide) _ _ _ rfl HO.out ad n c1 (vb l) rfl ?c1 ?c2 ?c3 ?c4 ?c5 ?c6 ?_)
            case c1 => rw [vb_length, HBS.out.len]; omega
            case c2 =>
              intro j u hj
              rw [vb_get] at hj
              obtain ⟨x, hx, rfl⟩ := Option.map_eq_some_iff.1 hj
              have hjl : j < l.length := (List.getElem?_eq_some_iff.1 hx).1
              obtain ⟨g', o', y, hA, _, hy, _, hc⟩ := HBS.out.rd.at_ hjl
              injection hA with hA
              subst hA
              rw [hx] at hy
              injection hy with hy
              subst hy
              rw [Addr.add_lit, hc]
            case c3 => exact vb_one l
            case c4 => unfold maxLen; omega
            case c5 => omega
            case c6 => exact hsz
            intro v2 w2 hown hg _
            have R := concat_step HPK.out HBS.out.len HO.out HB.out hown hg
            have HO2 := Lib.hid R.1
            have HB2 := Lib.hid R.2
            clear hown hg R
            go_wp2_with fail
            go_roundw
            case rel => exact ⟨k + 1, by omega, by go_num, HO2, HB2⟩
            case measure => simp [intOf]; omega
        · have HK : Hid (k = m) := Lib.hid (by omega)
          have e0 : cat (ps.take k) = cat ps := by rw [HK.out, List.take_of_length_le (by rw [HP.out.len]; exact Nat.le_refl _)]
          have h1 := HO.out
          rw [e0] at h1
          obtain ⟨A', c', hv, _, _⟩ := own_form h1
          subst hv
          have HO3 := Lib.hid h1
          clear h1 e0
          go_wp2_with fail
          go_ret
          exact ⟨A', c', rfl, HO3.out, HB.out⟩
theorem join_any (G : Option Addr) (m c : Nat) (ps : List (Value × List Nat)) (w : World) (hp : Parts w w.heap.size G m ps) (hm : m ≤ 9000000000000000000) (ht : (cat ps).length ≤ 140737488355328) :
    Calls Try.prog 34 #[.slice G m c] w fun e w' => ∃ A' c', e = .returned (.slice A' (cat ps).length c') ∧ w'.ownsRow w.heap.size 5 1 (.slice A' (cat ps).length c') (cat ps).length (vb (cat ps)) ∧ Below w.heap.size w w' := by
  have HP := Lib.hid hp
  clear hp
  go_enter Try.func34, Try.ntmps34
  go_wp2_with fail
  refine (concat_any _ _ _ ps _ HP.out hm ht).mono ?_
  rintro e w1 ⟨A', c', rfl, hown, hbel⟩
  have HO := Lib.hid hown
  have HB := Lib.hid hbel
  clear hown hbel
  go_wp2_with fail
  go_ret
  exact ⟨A', c', rfl, HO.out, HB.out⟩
end
section
open Go Go.RowKit
structure Mod (F : Nat → Prop) (w w' : World) : Prop where
  os : w'.os = w.os
  tape : w'.tape = w.tape
  output : w'.output = w.output
  size : w.heap.size ≤ w'.heap.size
  block : ∀ k, k < w.heap.size → ¬ F k → w'.heap[k]? = w.heap[k]?
section
variable {F G : Nat → Prop} {a b c w w' : World}
theorem Mod.refl (F : Nat → Prop) (w : World) : Mod F w w := ⟨rfl, rfl, rfl, Nat.le_refl _, fun _ _ _ => rfl⟩
theorem Mod.trans (h : Mod F a b) (k : Mod G b c) (hG : ∀ i, G i → F i ∨ a.heap.size ≤ i) : Mod F a c :=
  ⟨k.os.trans h.os, k.tape.trans h.tape, k.output.trans h.output, Nat.le_trans h.size k.size, fun i hi hf =>
    (k.block i (Nat.lt_of_lt_of_le hi h.size) fun hg => (hG i hg).elim hf fun hl => absurd hi (by omega)).trans (h.block i hi hf)⟩
theorem Mod.of_ext (h : Ext w w') : Mod F w w' := ⟨h.os, h.tape, h.output, h.size, fun k hk _ => h.block k hk⟩
theorem Mod.setCell (h : Mod F a b) {p : Addr} (hp : F p.block ∨ a.heap.size ≤ p.block) (v : Value) : Mod F a (b.setCell p v) :=
  ⟨h.os, h.tape, h.output, Nat.le_trans h.size (by simp [World.setCell]), fun k hk hf => (Below.heap_setCell _ _ _ _ (fun e => by
    subst e
    exact hp.elim hf fun hl => absurd hk (by omega))).trans (h.block k hk hf)⟩
theorem Mod.grown {row : Option Nat} (h : Mod F a b) (hg : b.grownBy c row) (hr : ∀ k, row = some k → F k ∨ a.heap.size ≤ k) : Mod F a c :=
  ⟨hg.os.trans h.os, hg.tape.trans h.tape, hg.output.trans h.output, Nat.le_trans h.size hg.size, fun k hk hf =>
    (hg.block k (Nat.lt_of_lt_of_le hk h.size) (fun e => (hr k e.symm).elim hf fun hl => absurd hk (by omega))).trans (h.block k hk hf)⟩
def Off (F : Nat → Prop) (A : Option Addr) : Prop := ∀ p, A = some p → ¬ F p.block
theorem Bs.mod {B : Nat} {A : Option Addr} {n cp : Nat} {l : List Nat} (h : Bs w B A n cp l) (k : Mod F w w') (hB : B ≤ w.heap.size) (ho : Off F A) : Bs w' B A n cp l :=
  ⟨h.len, h.cap, h.most, ⟨h.rd.1, fun hn => by
    obtain ⟨g, o, e, hg, hc⟩ := h.rd.2 hn
    refine ⟨g, o, e, hg, fun j x hx => ?_⟩
    rw [← hc j x hx]
    exact World.cell?_of_block (a := ⟨g, o + j, none⟩) (k.block g (by omega) (ho _ e))⟩, h.nil_⟩
theorem By.mod {A : Option Addr} {n cp : Nat} {l : List Nat} (h : By w A n cp l) (k : Mod F w w') (ho : Off F A) : By w' A n cp l := (Bs.mod h k (Nat.le_refl _) ho).more k.size
theorem heap_mod {g : Nat} {o : Obj} (h : w.heap[g]? = some o) (k : Mod F w w') (hg : ¬ F g) : w'.heap[g]? = some o := (k.block g (Array.getElem?_eq_some_iff.1 h).1 hg).trans h
theorem own_mod {base e size n : Nat} {v : Value} {xs : List Value} (h : w.ownsRow base e size v n xs) (k : Mod F w w') (hv : ∀ i, v.ownBlock = some i → ¬ F i) : w'.ownsRow base e size v n xs := by
  refine ⟨h.1, ?_⟩
  rcases h.2 with h0 | ⟨g, cap, cur, rfl, hb, hg, h1⟩
  · exact .inl h0
  · exact .inr ⟨g, cap, cur, rfl, hb, heap_mod hg k (hv g rfl), h1⟩
end
end
section
open Go Go.RowKit
def secC (r m : List Nat) (l : Bool) : List Value := vb r ++ (vb m ++ [.bool l])
def DM.sec (m : DM) (s : Nat) : List Value := secC (m.rest.getD s []) (m.meant.getD s []) (m.lost.getD s false)
end
section
open Go Go.RowKit Go.Shelf
attribute [local go_sem] Oper.semAt_some
end
section
open Go Go.RowKit Go.Shelf
attribute [local go_sem] Oper.semAt_some
theorem calls_marks {f : FuncId} {fn : Func} {c : Code} {args : Array Value} {w : World} {R : Ending → World → Prop} (hf : Try.prog.funcs[f]? = some fn) (hb : fn.body = some c)
    (h : c.wp Try.prog (bodyPostM Fence.wide 9 Try.prog fn R) { tmps := args ++ Array.replicate (fn.ntmps - args.size) undef, defers := [] } w) : Calls Try.prog f args w R :=
  (callsIn_wide (n := 9)).1 (callsIn_of_wp_marks hf hb trivial (wpIn_wide.2 h) rfl)
theorem retM0 {fn : Func} {R : Ending → World → Prop} {a : Act} {w : World} {v : Value} (hd : a.defers = []) (hr : (results fn a.tmps).run Try.prog w = .ok v w) (hR : R (.returned v) w) : bodyPostM Fence.wide 9 Try.prog fn R .ret a w := by
  show LeavesInM Fence.wide 9 Try.prog fn a.tmps R a.defers .returning w
  rw [hd]
  exact ⟨v, hr, hR⟩
theorem retM1 {fn : Func} {R : Ending → World → Prop} {a : Act} {w : World} {v : Value} {D : Nat} (hd : a.defers = [{ target := .collected D, args := #[] }]) (hK : w.heap[D]? = some (.deferred (some [])))
    (hr : (results fn a.tmps).run Try.prog (w.putObj D (.deferred none)) = .ok v (w.putObj D (.deferred none))) (hR : R (.returned v) (w.putObj D (.deferred none))) : bodyPostM Fence.wide 9 Try.prog fn R .ret a w := by
  show LeavesInM Fence.wide 9 Try.prog fn a.tmps R a.defers .returning w
  rw [hd]
  exact ⟨by simp, .inl ⟨_, _, rfl, run_takeDeferred hK, v, hr, hR⟩⟩
end
section
open Go Go.RowKit
section
variable {w : World} {d : Nat} {F : Nat → Prop} {m : DM}
end
end
section
open Go Go.RowKit Go.Shelf
attribute [local go_sem] Oper.semAt_some
theorem grown_of_ext {w w' : World} (h : Ext w w') : w.grownBy w' none := ⟨h.os, h.tape, h.output, h.size, fun k hk _ => h.block k hk⟩
theorem mod_cell {G : Nat → Prop} {w w' : World} (k : Mod G w w') {g i : Nat} {v : Value} (hg : ¬ G g) (h : w.cell? ⟨g, i, none⟩ = some v) : w'.cell? ⟨g, i, none⟩ = some v :=
  (World.cell?_of_block (a := ⟨g, i, none⟩) (k.block g (World.block_lt_of_cell? w _ h) hg)).trans h
theorem ext_of_cell {w w' : World} {g i : Nat} {v : Value} (h : Ext w w') (hc : w.cell? ⟨g, i, none⟩ = some v) : w'.cell? ⟨g, i, none⟩ = some v := (Below.cell h (p := ⟨g, i, none⟩) (World.block_lt_of_cell? w _ hc)).trans hc
theorem mod_put {G : Nat → Prop} {w W : World} (l : Nat) (o o' : Obj) (hG : ∀ k, w.heap.size ≤ k → G k) (hl : w.heap.size ≤ l) (_ : W.heap[l]? = some o) : Mod G W (W.putObj l o') :=
  (Mod.refl G W).grown (grownBy_putObj' W l o') (fun k e => by cases e; exact .inl (hG l hl))
end
section
open Go Go.RowKit Go.Shelf
attribute [local go_sem] Oper.semAt_some
def pcA (A : Option Addr) (c k : Nat) : Option Addr := if c = 80 * k then A else A.map fun a => a.add (80 * k)
def pcV (A : Option Addr) (n c k : Nat) : Value := .slice (pcA A c k) (min 80 (n - 80 * k)) (c - 80 * k)
theorem By.chunk {w : World} {A : Option Addr} {n c : Nat} {b : List Nat} (h : By w A n c b) (k : Nat) (hk : 80 * k ≤ n) : By w (pcA A c k) (min 80 (n - 80 * k)) (c - 80 * k) (chunkL b k) := by
  have hl := h.len
  have hcp := h.cap
  have hm := h.most
  by_cases hz : n = 80 * k
  · have hnil : chunkL b k = [] := by
      unfold chunkL
      rw [List.drop_of_length_le (by omega)]; rfl
    rw [hnil]
    refine ⟨by simp; omega, by omega, by omega, Rd.nil_, fun e => ?_⟩
    unfold pcA at e
    split at e
    · omega
    · rw [Option.map_eq_none_iff] at e
      have := Bs.nil_ h e
      omega
  · obtain ⟨g, o, hA, _⟩ := h.rd.2 (by omega)
    subst hA
    have e : pcA (some ⟨g, o, none⟩) c k = some ⟨g, o + 80 * k, none⟩ := by
      unfold pcA
      rw [if_neg (by omega), Option.map_some, Addr.add_lit]
    rw [e]
    unfold chunkL
    refine ⟨by rw [List.length_take, List.length_drop]; omega, by omega, by omega, (h.rd.drop rfl (80 * k)).take 80, fun e => by cases e⟩
theorem zcut_mid (A : Option Addr) (n c k : Nat) (h : 80 * k + 80 ≤ n) (hc : n ≤ c) (w : World) : (Instr.slice 22 (.slice A n c) (some (.int .i64 (80 * (k : Int)))) (some (.int .i64 (80 * (k : Int) + 80))) none).run Try.prog w = .ok (pcV A n c k) w := by
  have ht : Try.prog.elem 22 = 5 := by kernel_rfl
  rw [run_slice_lh w 22 A n c (by rw [ht]; exact Try.underlying22) .i64 .i64 (80 * (k : Int)) (80 * (k : Int) + 80) (by omega) (by omega) (by omega), u8_sizeZ]
  simp only [Result.andThen, sliced]
  rw [show (80 * (k : Int)).toNat = 80 * k by omega, show (80 * (k : Int) + 80).toNat = 80 * k + 80 by omega]
  unfold pcV pcA
  rw [show min 80 (n - 80 * k) = 80 * k + 80 - 80 * k by omega]
  simp
theorem zcut_end (A : Option Addr) (n c k : Nat) (h : 80 * k ≤ n) (h2 : n ≤ 80 * k + 80) (w : World) : (Instr.slice 22 (.slice A n c) (some (.int .i64 (80 * (k : Int)))) none none).run Try.prog w = .ok (pcV A n c k) w := by
  have ht : Try.prog.elem 22 = 5 := by kernel_rfl
  rw [run_slice_l w 22 A n c (by rw [ht]; exact Try.underlying22) .i64 (80 * (k : Int)) (by omega) (by omega), u8_sizeZ]
  simp only [Result.andThen, sliced]
  rw [show (80 * (k : Int)).toNat = 80 * k by omega]
  unfold pcV pcA
  rw [show min 80 (n - 80 * k) = n - 80 * k by omega]
  simp
abbrev PcIn (n : Nat) := { k : Nat // k < chunkN n }
def encPc (A : Option Addr) (n c : Nat) (x : PcIn n) : Array Value := #[pcV A n c x.1]
set_option maxHeartbeats 400000 in
theorem zpieces_of (A : Option Addr) (n c : Nat) (w : World) :
    Calls Try.prog 30 #[.slice A n c] w fun e w' => e = .returned (.func (.func 40) #[] #[.pointer (some ⟨w.heap.size, 0, none⟩)]) ∧ w' = w.alloc (.cells #[.slice A n c] 22) := by
  go_enter Try.func30, Try.ntmps30
  go_wp2
  go_ret
  exact ⟨rfl, rfl⟩
set_option maxHeartbeats 1600000 in
theorem zpieces1_in (n0 : Nat) (hn0 : 1 ≤ n0) (l bl : Nat) (G : Nat → Prop) (A : Option Addr) (n c : Nat) (hn9 : n ≤ 640) (hnc : n ≤ c) (J Jx : List (PcIn n) → World → Prop) (W0 V : World) (hV : Mod G W0 V)
    (hGf : ¬ G bl) (hcl : V.cell? ⟨bl, 0, none⟩ = some (.slice A n c))
    (hY : ∀ pre x W, J pre W → pre.length < chunkN n → YieldAt Fence.wide (n0 - 1) Try.prog l (encPc A n c x) W fun e W' =>
      (e = .returned (.bool true) ∧ J (pre ++ [x]) W' ∧ Mod G W W') ∨ (e = .returned (.bool false) ∧ Jx (pre ++ [x]) W')) (h0 : J [] V) :
    CallsIn Fence.wide n0 Try.prog 40 #[.func (.yield l) #[] #[], .pointer (some ⟨bl, 0, none⟩)] V fun e W' => (∃ v, e = .returned v) ∧
      ((∃ ys : List (PcIn n), ys.map (fun x => x.1) = List.range (chunkN n) ∧ J ys W') ∨ (∃ pre : List (PcIn n), True ∧ Jx pre W')) := by
  have HC := Lib.hid hcl
  have HG := Lib.hid hGf
  have HV := Lib.hid hV
  have HY := Lib.hid hY
  have HN : Hid ((1 ≤ chunkN n ∧ chunkN n ≤ 8 ∧ n ≤ 80 * chunkN n ∧ (2 ≤ chunkN n → 80 * (chunkN n - 1) < n))) := Lib.hid (chunkN_in hn9)
  clear hcl hV hY hGf
  refine callsIn_of_wp Try.func40 rfl trivial ?_ rfl
  simp only [Try.ntmps40, List.size_toArray, List.length_cons, List.length_nil, Nat.reduceAdd, Nat.reduceSub, Array.replicate_succ, Array.replicate_zero, List.push_toArray, List.append_toArray, List.nil_append, List.cons_append]
  gi_wp2
  gi_loopw [3] (fun i wr => ∃ (j : Nat) (pre : List (PcIn n)), j < chunkN n ∧ i = .int .i64 (80 * (j : Int)) ∧ Hid (pre.map (fun x => x.1) = List.range j) ∧ Hid (J pre wr) ∧ Hid (Mod G V wr)) (fun i _ => 1000 - (intOf i).toNat)
  case atStart => exact ⟨0, [], by have := HN.out; omega, rfl, Lib.hid rfl, Lib.hid h0, Lib.hid (Mod.refl _ _)⟩
  case round =>
    obtain ⟨j, pre, hj, rfl, HP, HJ, HM⟩ := hrel
    have hc0 : wr.cell? ⟨bl, 0, none⟩ = some (.slice A n c) := mod_cell HM.out HG.out HC.out
    have hj8 : j < 8 := by have := HN.out; omega
    obtain ⟨fn, tmps, assign, body, hy, hR⟩ := HY.out pre ⟨j, hj⟩ wr HJ.out (by have := congrArg List.length HP.out; simp at this; omega)
    have HR := Lib.hid hR
    have hy2 : (Instr.yield l #[pcV A n c j]).run Try.prog wr = .ok (.round l fn tmps assign body) wr := hy
    clear hR hy
    by_cases hlt : 80 < (n : Int) - 80 * (j : Int)
    · have hj2 : j + 1 < chunkN n := by have := HN.out; omega
      have hcut := fun W => zcut_mid A n c j (by omega) hnc W
      generalize pcV A n c j = pv at hcut hy2
      gi_wp2
      refine HR.out.mono ?_
      rintro e W4 (⟨rfl, hJ4, hM4⟩ | ⟨rfl, hJ4⟩)
      · have HJ4 := Lib.hid hJ4
        have HM4 : Hid (Mod G V W4) := Lib.hid (HM.out.trans hM4 fun _ hi => .inl hi)
        clear hJ4 hM4 hy2 hc0 hcut
        gi_wp2
        go_roundw
        case rel => exact ⟨j + 1, _, hj2, by go_num, Lib.hid (by rw [List.map_append, HP.out, List.range_succ]; rfl), HJ4, HM4⟩
        case measure => simp [intOf]; omega
      · have HJ4 := Lib.hid hJ4
        clear hJ4 hy2 hc0 hcut
        gi_wp2
        refine bodyPost_ret (results_none rfl _ _ _) rfl ?_
        exact ⟨⟨_, rfl⟩, .inr ⟨_, trivial, HJ4.out⟩⟩
    · have hj2 : j + 1 = chunkN n := by
        have h8 := HN.out
        by_cases h : j + 1 < chunkN n
        · have := h8.2.2.2 (by omega)
          have : 80 * (j + 1) ≤ 80 * (chunkN n - 1) := Nat.mul_le_mul_left _ (by omega)
          omega
        · omega
      have hjn : 80 * j ≤ n := by
        have h8 := HN.out
        by_cases h : j = 0
        · omega
        · have := h8.2.2.2 (by omega)
          have : 80 * j = 80 * (chunkN n - 1) := by rw [← hj2]; omega
          omega
      have hcut := fun W => zcut_end A n c j hjn (by omega) W
      generalize pcV A n c j = pv at hcut hy2
      gi_wp2
      refine HR.out.mono ?_
      rintro e W4 (⟨rfl, hJ4, hM4⟩ | ⟨rfl, hJ4⟩)
      · have HJ4 := Lib.hid hJ4
        clear hJ4 hM4 hy2 hc0 hcut
        gi_wp2
        go_end0
        exact ⟨⟨_, rfl⟩, .inl ⟨_, by rw [List.map_append, HP.out, show List.range (chunkN n) = List.range (j + 1) by rw [hj2], List.range_succ]; rfl, HJ4.out⟩⟩
      · have HJ4 := Lib.hid hJ4
        clear hJ4 hy2 hc0 hcut
        gi_wp2
        go_end0
        exact ⟨⟨_, rfl⟩, .inr ⟨_, trivial, HJ4.out⟩⟩
theorem zpieces_stops (n0 : Nat) (hn0 : 1 ≤ n0) (bl : Nat) (G : Nat → Prop) (A : Option Addr) (n c : Nat) (hn9 : n ≤ 640) (hnc : n ≤ c) (W0 : World) (hGf : ¬ G bl) (hcl : W0.cell? ⟨bl, 0, none⟩ = some (.slice A n c)) :
    SeqStopsK Fence.wide n0 Try.prog 40 #[.pointer (some ⟨bl, 0, none⟩)] (encPc A n c) (Mod G) (fun ys => ys.map (fun x => x.1) = List.range (chunkN n)) (fun _ => True) (chunkN n) W0 := fun l J Jx V hV hJ _ hY h0 => by
  have hx : Ext W0 V := hV
  have hm : Mod G W0 V := Mod.of_ext hx
  exact zpieces1_in n0 hn0 l bl G A n c hn9 hnc J Jx W0 V hm hGf (mod_cell hm hGf hcl) hY h0
end
section
open Go Go.RowKit Go.Lib
theorem own_madeZ (w : World) : (w.alloc (.cells #[] 5)).ownsRow w.heap.size 5 1 (.slice (some ⟨w.heap.size, 0, none⟩) 0 0) 0 (vb []) := World.ownsRow_made w #[] 0 (Nat.le_refl _) (Nat.zero_le _) rfl
theorem sclone_by (A : Option Addr) (l : List Nat) (n c : Nat) (w : World) (hb : By w A n c l) (hm : n ≤ 140737488355328) :
    Calls Try.prog 31 #[.slice A n c] w fun e w' => ∃ A' c', e = .returned (.slice A' n c') ∧ By w' A' n c' l ∧ Ext w w' ∧ w'.ownsRow w.heap.size 5 1 (.slice A' n c') n (vb l) := by
  obtain ⟨i0, hi, hz0, hz1, hz2⟩ := info_parts byte_info
  have q22 : ∀ (w : World) (a : Option Addr) (n c n' c' : Nat), (binOp .eql 22 (.slice a n c) (.slice none n' c')).run Try.prog w = .ok (.bool a.isNone) w := fun w a n c n' c' => Lib.run_eql_slice_nil w _ _ a n c n' c' Try.underlying22
  have HB := Lib.hid hb
  cases A with
  | none =>
    obtain rfl := Bs.nil_ hb rfl
    have hn : n = 0 := by have := Bs.cap hb; omega
    subst hn
    have hl0 : l = [] := List.eq_nil_of_length_eq_zero (Bs.len hb)
    subst hl0
    clear hb
    go_enter Try.func31, Try.ntmps31
    go_wp2_with fail
    go_ret
    exact ⟨none, 0, rfl, By.nil_ _, Ext.refl _, World.ownsRow_nil _ _ _ _⟩
  | some ad =>
    have HX := Lib.hid ((Ext.refl w).alloc (.cells #[] 5))
    have HO := Lib.hid (own_madeZ w)
    clear hb
    go_enter Try.func31, Try.ntmps31
    go_wp2_with (at_builtin; refine wpList_append_by rfl _ _ 22 rfl w.heap.size 5 i0 Try.underlying22 hi hz0 hz1 hz2 _ 0 (vb []) rfl HO.out (some ad) n c l rfl (HB.out.ext HX.out) (by omega) (Ext.size HX.out) ?_)
    intro v2 w2 hown hg
    obtain ⟨hx, A2, c2, rfl, hb2, ho2⟩ := app_step (l1 := []) HX.out HO.out hg hown (by simp) HB.out.rd.lt
    have HX2 := Lib.hid hx
    have HB2 := Lib.hid hb2
    have HO2 := Lib.hid ho2
    clear hx hb2 ho2 hown hg
    go_wp2_with fail
    go_ret
    exact ⟨A2, c2, rfl, HB2.out, HX2.out, HO2.out⟩
end
section
open Go
theorem rowsIn_round {n l : Nat} {P : Program} {row : String} {args : Array Value} {w : World} {R : Value → World → Prop} (h : Rows P row args w R) : RowsIn (Fence.wide.inRound l) n P row args w R :=
  fun c cs _ => let ⟨v, w', r, s⟩ := h c cs; ⟨v, w', r, (stepsIn_wide.2 s : StepsIn (Machine.fenced P Fence.wide) P _ _)⟩
theorem op_in_round {n l : Nat} {P : Program} {o : Oper} {a : Act} {w : World} {K : Act → World → Prop} {Q : Exit → Act → World → Prop} (hd : ∀ c, o.op ≠ .defer c) (h : Oper.wp P o a w K Q) : Oper.wpIn (Fence.wide.inRound l) n P o a w K Q := by
  refine ⟨fun _ _ => trivial, ?_⟩
  rw [Fence.inRound_round, Oper.semAt_some l _ _ hd]
  unfold Oper.wp at h
  generalize (execOp a.eval o).run P w = r at h ⊢
  have hdp : (Fence.wide.inRound l).depth.isSome = true → 1 ≤ n := fun e => by cases e
  cases r with
  | ok x w' =>
    cases x <;> simp only [Oper.upon, Oper.uponIn] at h ⊢ <;>
      first
        | exact h
        | exact ⟨hdp, CallsIn.inRound l (callsIn_wide.2 h)⟩
        | exact ⟨hdp, rowsIn_round h⟩
        | exact h.elim
  | halt x w' => cases x <;> simp only [Oper.upon, Oper.uponIn] at h ⊢ <;> exact h
theorem step_in_round {n l : Nat} {P : Program} {o : Oper} {a : Act} {w : World} {K : Act → World → Prop} {Q : Exit → Act → World → Prop} {b : Bool} (hd : ∀ c, o.op ≠ .defer c) (h : if b = true then Oper.wp P o a w K Q else K (a.put o.dst undef) w) :
    if b = true then Oper.wpIn (Fence.wide.inRound l) n P o a w K Q else (∀ f, o.about P w a.eval = some f → (Fence.wide.inRound l).fn f) ∧ K (a.put o.dst undef) w := by
  cases b with
  | true => exact op_in_round hd h
  | false => exact ⟨fun _ _ => trivial, h⟩
end
end Go.Proofs.Ytnlappoocffcpaa

/-
  The contract of chunk.Split: the chunks of bytes, each in memory of its own, or ErrLong. (Its round's region by program: genzsplit.py.)
-/
import Derived.Test.YtnlappoocffcpaaX00
import Derived.Test.YtnlappoocffcpaaX01
import Derived.Test.YtnlappoocffcpaaX02
import Derived.Deep.AppendLies
import Derived.Maps.AppendAt
import Derived.Maps.OwnSet
import Derived.Maps.Keyed
import Derived.Deep.DeepCutAuto
import Derived.RangeFuncNested
import Derived.RangeFuncBound
import Derived.RangeFuncCalls
import Derived.RangeFuncLeaves
import Derived.Shelf.Abstract
import Derived.Shelf.RegionOpen
import Derived.WalkKit
import Derived.OwnWalkIn
import Derived.TacticsInMore
import Derived.LoopNIn
import Derived.LoopIn
import Derived.Deep.RegionHeld3
namespace Go.Proofs.Ytnlappoocffcpaa
set_option maxRecDepth 100000
section
open Go Go.RowKit Go.Shelf
attribute [local go_sem] Oper.semAt_some
def Lst.val (a : Lst) : Value := .slice a.A a.n a.c
def ByO (W : World) (b : Nat) (a : Lst) : Prop := By W a.A a.n a.c a.l ∧ W.ownsRow b 5 1 a.val a.n (vb a.l)
theorem own_lowZ {w : World} {b b' e sz n : Nat} {v : Value} {xs : List Value} (h : w.ownsRow b e sz v n xs) (hb : b' ≤ b) : w.ownsRow b' e sz v n xs := by
  refine ⟨h.1, ?_⟩
  rcases h.2 with h0 | ⟨g, cap, cur, h1, h2, h3⟩
  · exact .inl h0
  · exact .inr ⟨g, cap, cur, h1, Nat.le_trans hb h2, h3⟩
def LsOk (W : World) (b : Nat) (v : Value) (L : List Lst) : Prop := ∀ a ∈ L, ByO W b a ∧ ∀ p, a.A = some p → b < p.block ∧ p.block < W.heap.size ∧ v.ownBlock ≠ some p.block
theorem own_fresh {w w' : World} {A : Option Addr} {n c : Nat} {e : TypeId} {xs : List Value} (h : w'.ownsRow w.heap.size e 1 (.slice A n c) n xs) : ∀ p, A = some p → w.heap.size ≤ p.block ∧ p.block < w'.heap.size := fun p hp => by
  subst hp
  exact h.lt p.block rfl
theorem ownsRow_ext {w w' : World} {b e sz n : Nat} {v : Value} {xs : List Value} (h : w.ownsRow b e sz v n xs) (k : Ext w w') : w'.ownsRow b e sz v n xs := own_mod h (Mod.of_ext (F := fun _ => False) k) fun _ _ hf => hf
theorem boxed_ext {w w' : World} {b : Nat} {t : TypeId} {v : Value} (h : Boxed w b t v) (k : Ext w w') : Boxed w' b t v := h.kept (grown_of_ext k) (by simp)
theorem By.grown {W W' : World} {A : Option Addr} {n c : Nat} {l : List Nat} {row : Option Nat} (h : By W A n c l) (hg : W.grownBy W' row) (hr : ∀ r, row = some r → ∃ o : Obj, W.heap[r]? = some o ∧ o.isCells = false) : By W' A n c l := by
  cases l with
  | nil => exact ⟨h.len, h.cap, h.most, Rd.nil_, Bs.nil_ h⟩
  | cons x l =>
    obtain ⟨g, o, hA, hlt, hc⟩ := h.rd.2 (by simp)
    have h0 := hc 0 x rfl
    have hm : Mod (fun k => some k = row) W W' := ⟨hg.os, hg.tape, hg.output, hg.size, fun k hk hf => hg.block k hk hf⟩
    refine By.mod h hm ?_
    intro p hp hf
    rw [hA] at hp
    injection hp with hp
    subst hp
    obtain ⟨ob, ho, hcl⟩ := hr g hf.symm
    unfold World.cell? at h0
    rw [show (⟨g, o + 0, none⟩ : Addr).block = g from rfl, ho] at h0
    cases ob <;> simp [Obj.isCells] at hcl h0
theorem ByO.mod {W W' : World} {b : Nat} {a : Lst} {F : Nat → Prop} (h : ByO W b a) (k : Mod F W W') (ho : ∀ p, a.A = some p → ¬ F p.block) : ByO W' b a :=
  ⟨By.mod h.1 k ho, own_mod h.2 k fun i hi => by
    cases hA : a.A with
    | none => rw [Lst.val, hA] at hi; cases hi
    | some p =>
      rw [Lst.val, hA] at hi
      have hi : some p.block = some i := hi
      injection hi with hi
      subst hi
      exact ho p hA⟩
theorem ByO.ext {W W' : World} {b : Nat} {a : Lst} (h : ByO W b a) (k : Ext W W') : ByO W' b a := ⟨By.ext h.1 k, ownsRow_ext h.2 k⟩
theorem ByO.grown {W W' : World} {b : Nat} {a : Lst} {row : Option Nat} (h : ByO W b a) (hg : W.grownBy W' row) (hr : ∀ r, row = some r → ∃ o : Obj, W.heap[r]? = some o ∧ o.isCells = false) : ByO W' b a := by
  have hm : Mod (fun k => some k = row) W W' := ⟨hg.os, hg.tape, hg.output, hg.size, fun k hk hf => hg.block k hk hf⟩
  refine ⟨By.grown h.1 hg hr, own_mod h.2 hm fun i hi hf => ?_⟩
  obtain ⟨o, ho, hc⟩ := hr i hf.symm
  rcases h.2.2 with ⟨hv, _⟩ | ⟨g, cap, cur, hv, _, hgo, _⟩
  · rw [hv] at hi; cases hi
  · rw [hv] at hi
    have hi : some g = some i := hi
    injection hi with hi
    subst hi
    rw [hgo] at ho
    cases ho
    cases hc
theorem LsOk.grown {W W' : World} {b : Nat} {v : Value} {L : List Lst} {row : Option Nat} (h : LsOk W b v L) (hg : W.grownBy W' row) (hr : ∀ r, row = some r → ∃ o : Obj, W.heap[r]? = some o ∧ o.isCells = false) : LsOk W' b v L := fun a ha =>
  ⟨(h a ha).1.grown hg hr, fun p hp => by
    obtain ⟨h1, h2, h3⟩ := (h a ha).2 p hp
    exact ⟨h1, Nat.lt_of_lt_of_le h2 hg.size, h3⟩⟩
theorem LsOk.more {W w1 w2 : World} {b g cap m : Nat} {v : Value} {L : List Lst} {tmp : Obj} {a0 : Lst} (h : LsOk W b v L) (hb : b < W.heap.size) (hvo : ∀ k, v.ownBlock = some k → k < W.heap.size) (hx : Ext W w1) (hby : ByO w1 b a0) (hfr : ∀ p, a0.A = some p → W.heap.size ≤ p.block ∧ p.block < w1.heap.size)
    (hg : (w1.alloc tmp).grownBy w2 v.ownBlock) (hgl : v.ownBlock = some g ∨ g = (w1.alloc tmp).heap.size) (u : Value) : LsOk (w2.setCell ⟨b, 0, none⟩ u) b (.slice (some ⟨g, 0, none⟩) m cap) (L ++ [a0]) := by
  have hs1 := hx.size
  have hs2 : (w1.alloc tmp).heap.size = w1.heap.size + 1 := World.size_alloc _ _
  have hs3 := hg.size
  have hs4 : (w2.setCell ⟨b, 0, none⟩ u).heap.size = w2.heap.size := by simp [World.setCell]
  have hm : Mod (fun k => k = b ∨ some k = v.ownBlock) w1 (w2.setCell ⟨b, 0, none⟩ u) := by
    have h1 : Mod (fun k => k = b ∨ some k = v.ownBlock) w1 (w1.alloc tmp) := Mod.of_ext ((Ext.refl w1).alloc tmp)
    have h2 : Mod (fun k => k = b ∨ some k = v.ownBlock) w1 w2 := h1.grown hg fun k hk => .inl (.inr hk.symm)
    exact Mod.setCell h2 (p := ⟨b, 0, none⟩) (.inl (.inl rfl)) u
  intro a ha
  rcases List.mem_append.1 ha with ha | ha
  · obtain ⟨h1, h2⟩ := h a ha
    refine ⟨ByO.mod (h1.ext hx) hm fun p hp hf => ?_, fun p hp => ?_⟩
    · obtain ⟨q1, _, q3⟩ := h2 p hp
      rcases hf with hf | hf
      · omega
      · exact q3 hf.symm
    · obtain ⟨q1, q2, q3⟩ := h2 p hp
      refine ⟨q1, by omega, fun e => ?_⟩
      injection e with e
      rcases hgl with hgl | hgl
      · have e2 : g = p.block := e
        rw [e2] at hgl; exact q3 hgl
      · have : g = p.block := e
        omega
  · rw [List.mem_singleton] at ha
    subst ha
    refine ⟨ByO.mod hby hm fun p hp hf => ?_, fun p hp => ?_⟩
    · obtain ⟨q1, q2⟩ := hfr p hp
      rcases hf with hf | hf
      · omega
      · have := hvo _ hf.symm
        omega
    · obtain ⟨q1, q2⟩ := hfr p hp
      refine ⟨by omega, by omega, fun e => ?_⟩
      injection e with e
      have e2 : g = p.block := e
      rcases hgl with hgl | hgl
      · have := hvo _ hgl
        omega
      · omega
theorem sl_infoZ : (Try.prog.info? 22).map (fun i => (i.zero, i.size, i.bytes)) = some (some (.slice none 0 0), 1, 24) := by kernel_rfl
def SplJ (b : Nat) (w : World) (A : Option Addr) (n c : Nat) (bs : List Nat) (pre : List (PcIn n)) (W : World) : Prop :=
  ((∃ v L, Boxed W b 23 v ∧ W.ownsRow b 22 1 v L.length (L.map Lst.val) ∧ LsOk W b v L ∧ v.ownBlock ≠ some (b + 1) ∧ L.map (fun a => a.l) = pre.map fun x => chunkL bs x.1) ∧ Boxed W (b + 1) 22 (.slice A n c)) ∧ Below b w W
theorem splJ_own {b : Nat} {w : World} {A : Option Addr} {n c : Nat} {bs : List Nat} (h0 : b = w.heap.size) (B : Nat) (hB : b ≤ B) : OwnFrom B (SplJ b w A n c bs) := by
  rintro pre W W' row ⟨⟨⟨v, L, hv, hrow, hok, hne, hl⟩, hbl⟩, hbel⟩ hg hr
  refine ⟨⟨⟨v, L, ?_, ?_, hok.grown hg (fun r e => (hr r e).2), hne, hl⟩, ?_⟩, ?_⟩
  · exact hv.kept hg (fun e => by obtain ⟨_, o, ho, hc⟩ := hr b e.symm; rw [show W.heap[b]? = _ from hv] at ho; cases ho; cases hc)
  · refine ⟨hrow.1, ?_⟩
    rcases hrow.2 with h0 | ⟨g, cap, cur, rfl, h1, hgb, h2⟩
    · exact .inl h0
    · refine .inr ⟨g, cap, cur, rfl, h1, (hg.block g (Array.getElem?_eq_some_iff.1 hgb).1 fun e => ?_).trans hgb, h2⟩
      obtain ⟨_, o, ho, hc⟩ := hr g e.symm
      rw [hgb] at ho
      cases ho
      cases hc
  · exact hbl.kept hg (fun e => by obtain ⟨_, o, ho, hc⟩ := hr (b + 1) e.symm; rw [show W.heap[b + 1]? = _ from hbl] at ho; cases ho; cases hc)
  · exact Below.grown hbel hg (by have := Below.size hbel; omega) fun j e => Nat.le_trans hB (hr j e).1
theorem mod_twoZ {b : Nat} {W W' : World} (h : Below b W W') (hk : W'.heap[b + 1]? = W.heap[b + 1]?) : Mod (fun k => b ≤ k ∧ k ≠ b + 1) W W' :=
  ⟨h.os, h.tape, h.output, Below.size h, fun k hlt hg => by
    by_cases e : k = b + 1
    · subst e
      exact hk
    · exact h.block k (by omega)⟩
def SplX (b : Nat) (A : Option Addr) (n c : Nat) (fv : Value) (x : PcIn n) (a' : Act) (_ : World) : Prop := a' = { tmps := #[.slice A n c, undef, .slice none 0 0, .int .i64 0, .pointer (some ⟨b, 0, none⟩), pcV A n c x.1, .slice A n c, .int .i64 (n : Int), .bool (decide ((640 : Int) < (n : Int))), .slice A n c, fv, pcV A n c x.1, undef, undef, undef, undef, undef, undef], defers := [] }
set_option maxHeartbeats 1600000 in
theorem zsplit_no (A : Option Addr) (n c : Nat) (hn : 640 < n) (w : World) :
    Calls Try.prog 10 #[.slice A n c] w fun e w' => e = .returned (.tuple #[.slice none 0 0, .int .i64 3]) ∧ Ext w w' := by
  refine calls_marks Try.func10 rfl ?_
  simp only [Try.ntmps10, List.size_toArray, List.length_cons, List.length_nil, Nat.reduceAdd, Nat.reduceSub, Array.replicate_succ, Array.replicate_zero, List.push_toArray, List.append_toArray, List.nil_append, List.cons_append]
  go_wp2_with fail
  refine retM0 (v := .tuple #[.slice none 0 0, .int .i64 3]) rfl ?_ ?_
  · simp [results, Try.results10, go_sem]
  · exact ⟨rfl, Ext.refl w⟩
set_option maxHeartbeats 1600000 in
theorem zsplit_yes {w : World} (A : Option Addr) (n c : Nat) (bs : List Nat) (hb : By w A n c bs) (hn : n ≤ 640) :
    Calls Try.prog 10 #[.slice A n c] w fun e w' => ∃ v L, e = .returned (.tuple #[v, .int .i64 0]) ∧ w'.ownsRow w.heap.size 22 1 v L.length (L.map Lst.val) ∧ LsOk w' w.heap.size v L ∧ L.map (fun a => a.l) = splitL bs ∧ Ext w w' := by
  obtain ⟨i0, hi, hz0, hz1, hz2⟩ := info_parts sl_infoZ
  have hcn := hb.cap
  have hln := hb.len
  have hE : Ext w ((w.alloc (.cells #[.slice none 0 0] 23)).alloc (.cells #[.slice A n c] 22)) := ((Ext.refl w).alloc _).alloc _
  have bO : Boxed ((w.alloc (.cells #[.slice none 0 0] 23)).alloc (.cells #[.slice A n c] 22)) w.heap.size 23 (.slice none 0 0) := (Boxed.new w _ _).alloc _
  have bL : Boxed ((w.alloc (.cells #[.slice none 0 0] 23)).alloc (.cells #[.slice A n c] 22)) (w.heap.size + 1) 22 (.slice A n c) := by
    have := Boxed.new (w.alloc (.cells #[.slice none 0 0] 23)) 22 (.slice A n c)
    rwa [World.size_alloc] at this
  have hst := zpieces_stops 8 (by omega) (w.heap.size + 1) (fun k => w.heap.size ≤ k ∧ k ≠ w.heap.size + 1) A n c hn hcn _ (by omega) bL.cell
  have HST := Lib.hid hst
  have HE := Lib.hid hE
  have HB := Lib.hid (And.intro bO bL)
  have HBY := Lib.hid hb
  clear hst hE bO bL hb
  refine calls_marks Try.func10 rfl ?_
  simp only [Try.ntmps10, List.size_toArray, List.length_cons, List.length_nil, Nat.reduceAdd, Nat.reduceSub, Array.replicate_succ, Array.replicate_zero, List.push_toArray, List.append_toArray, List.nil_append, List.cons_append]
  go_wp2_with fail
  refine (zpieces_of A n c _).mono ?_
  rintro e w1 ⟨rfl, rfl⟩
  go_wp2_with fail
  refine (wpIn_wide (n := 9)).1 ?_
  refine wpIn_rangeFunc_ownH (F := Fence.wide) (n := 9) rfl (by omega) (gf := 40) (lb := #[.pointer (some ⟨w.heap.size + 1, 0, none⟩)]) rfl trivial (enters_of Try.func40 (by kernel_rfl) rfl)
    HST.out (fun h k => h.trans k fun _ hi => .inl hi) (fun W l o o' hl ho _ _ => mod_put (w := (w.alloc (.cells #[.slice none 0 0] 23)).alloc (.cells #[.slice A n c] 22)) l o o' (fun k hk => by simp at hk; omega) hl ho) (Below.refl _ _) (fun _ => rfl)
    (SplJ w.heap.size w A n c bs)
    (fun _ _ _ => False)
    (splJ_own rfl _ (by have := HE.out.size; omega))
    (fun _ _ _ _ _ hs _ _ => hs)
    ⟨⟨⟨_, [], HB.out.1, World.ownsRow_nil _ _ _ _, (fun a ha => by cases ha), (fun e => by cases e), rfl⟩, HB.out.2⟩, HE.out⟩
    (SplX w.heap.size A n c (.func (.func 40) #[] #[.pointer (some ⟨w.heap.size + 1, 0, none⟩)]))
    (fun _ _ _ _ _ _ hs _ _ => hs) ?assign ?body ?done ?stop
  case assign =>
    intro l pre x W K hI hK
    dsimp only [encPc]
    gi_wp2
    exact hK _ _ (KeepsFrom.refl _ _) (Mod.refl _ _) hI rfl
  case body =>
    rintro l pre x a' W hl _ ⟨⟨⟨v, L, hv, hrow, hok, hne, hll⟩, hbl⟩, hB⟩ rfl hlt
    have hL9 : L.length < 8 := by
      have h1 := congrArg List.length hll
      rw [List.length_map, List.length_map] at h1
      have := (chunkN_in hn).2.1
      omega
    have hxk : 80 * x.1 ≤ n := by
      have h8 := chunkN_in hn
      have hx := x.2
      by_cases h : x.1 = 0
      · omega
      · have := h8.2.2.2 (by omega)
        have : 80 * x.1 ≤ 80 * (chunkN n - 1) := Nat.mul_le_mul_left _ (by omega)
        omega
    have HCL : Hid (∀ V, Ext W V → Calls Try.prog 31 #[pcV A n c x.1] V fun e w' => ∃ A' c', e = .returned (.slice A' (min 80 (n - 80 * x.1)) c') ∧ By w' A' (min 80 (n - 80 * x.1)) c' (chunkL bs x.1) ∧ Ext V w' ∧ w'.ownsRow V.heap.size 5 1 (.slice A' (min 80 (n - 80 * x.1)) c') (min 80 (n - 80 * x.1)) (vb (chunkL bs x.1))) := Lib.hid fun V hV =>
      sclone_by _ _ _ _ V (By.chunk ((HBY.out.ext hB).ext hV) x.1 hxk) (by omega)
    obtain ⟨N', hN'⟩ : ∃ N', min 80 (n - 80 * x.1) = N' := ⟨_, rfl⟩
    rw [hN'] at HCL
    have hN80 : N' ≤ 80 := by omega
    obtain ⟨pv, hpv⟩ : ∃ pv, pcV A n c x.1 = pv := ⟨_, rfl⟩
    rw [hpv] at HCL ⊢
    clear hN' hpv hxk
    have hc : W.drew.cell? ⟨w.heap.size, 0, none⟩ = some v := hv.cell
    gi_wp2
    refine wpIn_region_any (by kernel_rfl) ?_
    change wpAnyIn _ _ _ _ _ _ _ _ _ (World.drew _)
    refine wpAnyIn_ready (rs := [0, 1]) (by kernel_rfl) (by simp) ?_
    refine AllReadyIn.cons (o := ⟨some 12, .load 23 (.tmp 4), 23, "chunk.go:22", #[], none⟩) rfl (fun K hK => ?_) (AllReadyIn.cons (o := ⟨some 13, .move (.tmp 5), 22, "chunk.go:22", #[], none⟩) rfl (fun K hK => ?_) (AllReadyIn.nil))
    · skip
      refine step_in_round (by intro c h; cases h) ?_
      go_simp
      refine hK _ _ ?_
      clear hK K
      try simp only [Act.put, sT, s0, s1]
      refine wpAnyIn_ready (rs := [1]) (by kernel_rfl) (by simp) ?_
      refine AllReadyIn.cons (o := ⟨some 13, .move (.tmp 5), 22, "chunk.go:22", #[], none⟩) rfl (fun K hK => ?_) (AllReadyIn.nil)
      refine step_in_round (by intro c h; cases h) ?_
      go_simp
      refine hK _ _ ?_
      clear hK K
      try simp only [Act.put, sT, s0, s1]
      refine wpAnyIn_ready (rs := [2]) (by kernel_rfl) (by simp) ?_
      refine AllReadyIn.cons (o := ⟨some 14, .call { callee := .value (.func 31), args := #[.tmp 13], argTypes := #[22] }, 22, "chunk.go:22", #[⟨1, .data⟩], none⟩) rfl (fun K hK => ?_) (AllReadyIn.nil)
      refine step_in_round (by intro c h; cases h) ?_
      go_simp
      refine (HCL.out _ (Ext.refl W).drew).mono ?_
      rintro e w1 ⟨A', c', rfl, hby, hx, hown⟩
      have HX1 := Lib.hid (Ext.trans (Ext.refl W).drew hx)
      have HBY := Lib.hid (show ByO w1 w.heap.size ⟨A', N', c', chunkL bs x.1⟩ from ⟨hby, own_lowZ hown (show w.heap.size ≤ W.heap.size from Below.size hB)⟩)
      have HFR := Lib.hid (own_fresh hown)
      have hc1 : w1.cell? ⟨w.heap.size, 0, none⟩ = some v := ext_of_cell hx hc
      have hc2 := ext_of_cell ((Ext.refl w1).alloc (.cells #[.slice A' N' c'] 22)) hc1
      clear hx hby hown
      go_wp2_with fail
      try simp only [Act.put, sT, s0, s1]
      refine wpAnyIn_ready (rs := [3]) (by kernel_rfl) (by simp) ?_
      refine AllReadyIn.cons (o := ⟨some 15, .buildSlice 23 1 #[(0, .tmp 14)], 23, "chunk.go:22", #[⟨2, .data⟩], none⟩) rfl (fun K hK => ?_) (AllReadyIn.nil)
      refine step_in_round (by intro c h; cases h) ?_
      go_simp
      refine hK _ _ ?_
      clear hK K
      try simp only [Act.put, sT, s0, s1]
      refine wpAnyIn_ready (rs := [4]) (by kernel_rfl) (by simp) ?_
      refine AllReadyIn.cons (o := ⟨some 16, .call { callee := .builtin Go.Builtin.append, args := #[.tmp 12, .tmp 15], argTypes := #[23, 23] }, 23, "chunk.go:22", #[⟨0, .data⟩, ⟨3, .data⟩, ⟨2, .chain⟩], none⟩) rfl (fun K hK => ?_) (AllReadyIn.nil)
      refine step_in_round (by intro c h; cases h) ?_
      have hrow1 := ownsRow_ext hrow HX1.out
      refine step_append_lies _ rfl _ _ 23 rfl w.heap.size 22 i0 (.slice none 0 0) 1 24 Try.underlying23 hi hz0 hz1 hz2 rfl (by decide) v L.length (L.map Lst.val) rfl (hrow1.alloc _) ⟨w1.heap.size, 0, none⟩ 1 1 [.slice A' N' c'] rfl rfl (cell_one_new _ _ _) (by simp [Value.oneCell']) (by omega) (by unfold maxLen; omega) (by omega) (by have := HX1.out.size; have := Below.size hB; simp; omega) _ rfl ?_
      intro g2 cap2 w2 hown2 hgrow2 hlies2 _
      have hv1 : Boxed w1 w.heap.size 23 v := boxed_ext hv HX1.out
      obtain ⟨hv2, hv3, hr3, hk3, hb3⟩ := hv1.appended (by decide) hrow1 (Nat.le_trans (Below.size hB) HX1.out.size) (Nat.le_refl _) hown2 hgrow2
      have hcb := hv2.cell
      have hfb := hv2.frozen
      refine hK _ _ ?_
      clear hK K
      try simp only [Act.put, sT, s0, s1]
      refine wpAnyIn_ready (rs := [5]) (by kernel_rfl) (by simp) ?_
      refine AllReadyIn.cons (o := ⟨none, .store 23 (.tmp 4) (.tmp 16), 0, "chunk.go:22", #[⟨4, .data⟩, ⟨4, .chain⟩, ⟨0, .phase⟩, ⟨1, .phase⟩, ⟨2, .phase⟩, ⟨3, .phase⟩, ⟨4, .phase⟩], none⟩) rfl (fun K hK => ?_) (AllReadyIn.nil)
      refine step_in_round (by intro c h; cases h) ?_
      go_simp
      refine hK _ _ ?_
      clear hK K
      try simp only [Act.put, sT, s0, s1]
      refine wpAnyIn_done (by kernel_rfl) ?_ _
      gi_wp2
      have hb4 := boxed_ext hbl HX1.out
      have hb5 : Boxed (w2.setCell ⟨w.heap.size, 0, none⟩ (.slice (some ⟨g2, 0, none⟩) (L.length + 1) cap2)) (w.heap.size + 1) 22 (.slice A n c) := ((hb4.alloc _).kept hgrow2 (fun e => hne e.symm)).other (by omega) _
      refine ⟨(KeepsOthers.trans (KeepsOthers.of_grownBy (grown_of_ext HX1.out) (fun j o e => by cases e)) hk3).from _, mod_twoZ (Below.trans (Below.mono HX1.out (Below.size hB)) hb3) (hb5.trans hbl.symm), ⟨⟨_, L ++ [⟨A', N', c', chunkL bs x.1⟩], hv3, by rw [List.length_append, List.map_append]; exact hr3, hok.more ((Array.getElem?_eq_some_iff.1 hv).1) (fun k hk => (hrow.lt k hk).2) HX1.out HBY.out (fun p hp => by have := HFR.out p hp; exact this) hgrow2 hlies2 _, (fun e => by
        injection e with e
        have e2 : g2 = w.heap.size + 1 := e
        rcases hlies2 with h | h
        · rw [e2] at h; exact hne h
        · have := (Array.getElem?_eq_some_iff.1 hb4).1; simp at h; omega), by rw [List.map_append, List.map_append, hll]; rfl⟩, hb5⟩, Below.trans hB (Below.trans (Below.mono HX1.out (Below.size hB)) hb3)⟩
    · skip
      refine step_in_round (by intro c h; cases h) ?_
      go_simp
      refine hK _ _ ?_
      clear hK K
      try simp only [Act.put, sT, s0, s1]
      refine wpAnyIn_ready (rs := [0, 2]) (by kernel_rfl) (by simp) ?_
      refine AllReadyIn.cons (o := ⟨some 12, .load 23 (.tmp 4), 23, "chunk.go:22", #[], none⟩) rfl (fun K hK => ?_) (AllReadyIn.cons (o := ⟨some 14, .call { callee := .value (.func 31), args := #[.tmp 13], argTypes := #[22] }, 22, "chunk.go:22", #[⟨1, .data⟩], none⟩) rfl (fun K hK => ?_) (AllReadyIn.nil))
      · skip
        refine step_in_round (by intro c h; cases h) ?_
        go_simp
        refine hK _ _ ?_
        clear hK K
        try simp only [Act.put, sT, s0, s1]
        refine wpAnyIn_ready (rs := [2]) (by kernel_rfl) (by simp) ?_
        refine AllReadyIn.cons (o := ⟨some 14, .call { callee := .value (.func 31), args := #[.tmp 13], argTypes := #[22] }, 22, "chunk.go:22", #[⟨1, .data⟩], none⟩) rfl (fun K hK => ?_) (AllReadyIn.nil)
        refine step_in_round (by intro c h; cases h) ?_
        go_simp
        refine (HCL.out _ (Ext.refl W).drew).mono ?_
        rintro e w1 ⟨A', c', rfl, hby, hx, hown⟩
        have HX1 := Lib.hid (Ext.trans (Ext.refl W).drew hx)
        have HBY := Lib.hid (show ByO w1 w.heap.size ⟨A', N', c', chunkL bs x.1⟩ from ⟨hby, own_lowZ hown (show w.heap.size ≤ W.heap.size from Below.size hB)⟩)
        have HFR := Lib.hid (own_fresh hown)
        have hc1 : w1.cell? ⟨w.heap.size, 0, none⟩ = some v := ext_of_cell hx hc
        have hc2 := ext_of_cell ((Ext.refl w1).alloc (.cells #[.slice A' N' c'] 22)) hc1
        clear hx hby hown
        go_wp2_with fail
        try simp only [Act.put, sT, s0, s1]
        refine wpAnyIn_ready (rs := [3]) (by kernel_rfl) (by simp) ?_
        refine AllReadyIn.cons (o := ⟨some 15, .buildSlice 23 1 #[(0, .tmp 14)], 23, "chunk.go:22", #[⟨2, .data⟩], none⟩) rfl (fun K hK => ?_) (AllReadyIn.nil)
        refine step_in_round (by intro c h; cases h) ?_
        go_simp
        refine hK _ _ ?_
        clear hK K
        try simp only [Act.put, sT, s0, s1]
        refine wpAnyIn_ready (rs := [4]) (by kernel_rfl) (by simp) ?_
        refine AllReadyIn.cons (o := ⟨some 16, .call { callee := .builtin Go.Builtin.append, args := #[.tmp 12, .tmp 15], argTypes := #[23, 23] }, 23, "chunk.go:22", #[⟨0, .data⟩, ⟨3, .data⟩, ⟨2, .chain⟩], none⟩) rfl (fun K hK => ?_) (AllReadyIn.nil)
        refine step_in_round (by intro c h; cases h) ?_
        have hrow1 := ownsRow_ext hrow HX1.out
        refine step_append_lies _ rfl _ _ 23 rfl w.heap.size 22 i0 (.slice none 0 0) 1 24 Try.underlying23 hi hz0 hz1 hz2 rfl (by decide) v L.length (L.map Lst.val) rfl (hrow1.alloc _) ⟨w1.heap.size, 0, none⟩ 1 1 [.slice A' N' c'] rfl rfl (cell_one_new _ _ _) (by simp [Value.oneCell']) (by omega) (by unfold maxLen; omega) (by omega) (by have := HX1.out.size; have := Below.size hB; simp; omega) _ rfl ?_
        intro g2 cap2 w2 hown2 hgrow2 hlies2 _
        have hv1 : Boxed w1 w.heap.size 23 v := boxed_ext hv HX1.out
        obtain ⟨hv2, hv3, hr3, hk3, hb3⟩ := hv1.appended (by decide) hrow1 (Nat.le_trans (Below.size hB) HX1.out.size) (Nat.le_refl _) hown2 hgrow2
        have hcb := hv2.cell
        have hfb := hv2.frozen
        refine hK _ _ ?_
        clear hK K
        try simp only [Act.put, sT, s0, s1]
        refine wpAnyIn_ready (rs := [5]) (by kernel_rfl) (by simp) ?_
        refine AllReadyIn.cons (o := ⟨none, .store 23 (.tmp 4) (.tmp 16), 0, "chunk.go:22", #[⟨4, .data⟩, ⟨4, .chain⟩, ⟨0, .phase⟩, ⟨1, .phase⟩, ⟨2, .phase⟩, ⟨3, .phase⟩, ⟨4, .phase⟩], none⟩) rfl (fun K hK => ?_) (AllReadyIn.nil)
        refine step_in_round (by intro c h; cases h) ?_
        go_simp
        refine hK _ _ ?_
        clear hK K
        try simp only [Act.put, sT, s0, s1]
        refine wpAnyIn_done (by kernel_rfl) ?_ _
        gi_wp2
        have hb4 := boxed_ext hbl HX1.out
        have hb5 : Boxed (w2.setCell ⟨w.heap.size, 0, none⟩ (.slice (some ⟨g2, 0, none⟩) (L.length + 1) cap2)) (w.heap.size + 1) 22 (.slice A n c) := ((hb4.alloc _).kept hgrow2 (fun e => hne e.symm)).other (by omega) _
        refine ⟨(KeepsOthers.trans (KeepsOthers.of_grownBy (grown_of_ext HX1.out) (fun j o e => by cases e)) hk3).from _, mod_twoZ (Below.trans (Below.mono HX1.out (Below.size hB)) hb3) (hb5.trans hbl.symm), ⟨⟨_, L ++ [⟨A', N', c', chunkL bs x.1⟩], hv3, by rw [List.length_append, List.map_append]; exact hr3, hok.more ((Array.getElem?_eq_some_iff.1 hv).1) (fun k hk => (hrow.lt k hk).2) HX1.out HBY.out (fun p hp => by have := HFR.out p hp; exact this) hgrow2 hlies2 _, (fun e => by
          injection e with e
          have e2 : g2 = w.heap.size + 1 := e
          rcases hlies2 with h | h
          · rw [e2] at h; exact hne h
          · have := (Array.getElem?_eq_some_iff.1 hb4).1; simp at h; omega), by rw [List.map_append, List.map_append, hll]; rfl⟩, hb5⟩, Below.trans hB (Below.trans (Below.mono HX1.out (Below.size hB)) hb3)⟩
      · skip
        refine step_in_round (by intro c h; cases h) ?_
        go_simp
        refine (HCL.out _ (Ext.refl W).drew).mono ?_
        rintro e w1 ⟨A', c', rfl, hby, hx, hown⟩
        have HX1 := Lib.hid (Ext.trans (Ext.refl W).drew hx)
        have HBY := Lib.hid (show ByO w1 w.heap.size ⟨A', N', c', chunkL bs x.1⟩ from ⟨hby, own_lowZ hown (show w.heap.size ≤ W.heap.size from Below.size hB)⟩)
        have HFR := Lib.hid (own_fresh hown)
        have hc1 : w1.cell? ⟨w.heap.size, 0, none⟩ = some v := ext_of_cell hx hc
        have hc2 := ext_of_cell ((Ext.refl w1).alloc (.cells #[.slice A' N' c'] 22)) hc1
        clear hx hby hown
        go_wp2_with fail
        try simp only [Act.put, sT, s0, s1]
        refine wpAnyIn_ready (rs := [0, 3]) (by kernel_rfl) (by simp) ?_
        refine AllReadyIn.cons (o := ⟨some 12, .load 23 (.tmp 4), 23, "chunk.go:22", #[], none⟩) rfl (fun K hK => ?_) (AllReadyIn.cons (o := ⟨some 15, .buildSlice 23 1 #[(0, .tmp 14)], 23, "chunk.go:22", #[⟨2, .data⟩], none⟩) rfl (fun K hK => ?_) (AllReadyIn.nil))
        · skip
          refine step_in_round (by intro c h; cases h) ?_
          go_simp
          refine hK _ _ ?_
          clear hK K
          try simp only [Act.put, sT, s0, s1]
          refine wpAnyIn_ready (rs := [3]) (by kernel_rfl) (by simp) ?_
          refine AllReadyIn.cons (o := ⟨some 15, .buildSlice 23 1 #[(0, .tmp 14)], 23, "chunk.go:22", #[⟨2, .data⟩], none⟩) rfl (fun K hK => ?_) (AllReadyIn.nil)
          refine step_in_round (by intro c h; cases h) ?_
          go_simp
          refine hK _ _ ?_
          clear hK K
          try simp only [Act.put, sT, s0, s1]
          refine wpAnyIn_ready (rs := [4]) (by kernel_rfl) (by simp) ?_
          refine AllReadyIn.cons (o := ⟨some 16, .call { callee := .builtin Go.Builtin.append, args := #[.tmp 12, .tmp 15], argTypes := #[23, 23] }, 23, "chunk.go:22", #[⟨0, .data⟩, ⟨3, .data⟩, ⟨2, .chain⟩], none⟩) rfl (fun K hK => ?_) (AllReadyIn.nil)
          refine step_in_round (by intro c h; cases h) ?_
          have hrow1 := ownsRow_ext hrow HX1.out
          refine step_append_lies _ rfl _ _ 23 rfl w.heap.size 22 i0 (.slice none 0 0) 1 24 Try.underlying23 hi hz0 hz1 hz2 rfl (by decide) v L.length (L.map Lst.val) rfl (hrow1.alloc _) ⟨w1.heap.size, 0, none⟩ 1 1 [.slice A' N' c'] rfl rfl (cell_one_new _ _ _) (by simp [Value.oneCell']) (by omega) (by unfold maxLen; omega) (by omega) (by have := HX1.out.size; have := Below.size hB; simp; omega) _ rfl ?_
          intro g2 cap2 w2 hown2 hgrow2 hlies2 _
          have hv1 : Boxed w1 w.heap.size 23 v := boxed_ext hv HX1.out
          obtain ⟨hv2, hv3, hr3, hk3, hb3⟩ := hv1.appended (by decide) hrow1 (Nat.le_trans (Below.size hB) HX1.out.size) (Nat.le_refl _) hown2 hgrow2
          have hcb := hv2.cell
          have hfb := hv2.frozen
          refine hK _ _ ?_
          clear hK K
          try simp only [Act.put, sT, s0, s1]
          refine wpAnyIn_ready (rs := [5]) (by kernel_rfl) (by simp) ?_
          refine AllReadyIn.cons (o := ⟨none, .store 23 (.tmp 4) (.tmp 16), 0, "chunk.go:22", #[⟨4, .data⟩, ⟨4, .chain⟩, ⟨0, .phase⟩, ⟨1, .phase⟩, ⟨2, .phase⟩, ⟨3, .phase⟩, ⟨4, .phase⟩], none⟩) rfl (fun K hK => ?_) (AllReadyIn.nil)
          refine step_in_round (by intro c h; cases h) ?_
          go_simp
          refine hK _ _ ?_
          clear hK K
          try simp only [Act.put, sT, s0, s1]
          refine wpAnyIn_done (by kernel_rfl) ?_ _
          gi_wp2
          have hb4 := boxed_ext hbl HX1.out
          have hb5 : Boxed (w2.setCell ⟨w.heap.size, 0, none⟩ (.slice (some ⟨g2, 0, none⟩) (L.length + 1) cap2)) (w.heap.size + 1) 22 (.slice A n c) := ((hb4.alloc _).kept hgrow2 (fun e => hne e.symm)).other (by omega) _
          refine ⟨(KeepsOthers.trans (KeepsOthers.of_grownBy (grown_of_ext HX1.out) (fun j o e => by cases e)) hk3).from _, mod_twoZ (Below.trans (Below.mono HX1.out (Below.size hB)) hb3) (hb5.trans hbl.symm), ⟨⟨_, L ++ [⟨A', N', c', chunkL bs x.1⟩], hv3, by rw [List.length_append, List.map_append]; exact hr3, hok.more ((Array.getElem?_eq_some_iff.1 hv).1) (fun k hk => (hrow.lt k hk).2) HX1.out HBY.out (fun p hp => by have := HFR.out p hp; exact this) hgrow2 hlies2 _, (fun e => by
            injection e with e
            have e2 : g2 = w.heap.size + 1 := e
            rcases hlies2 with h | h
            · rw [e2] at h; exact hne h
            · have := (Array.getElem?_eq_some_iff.1 hb4).1; simp at h; omega), by rw [List.map_append, List.map_append, hll]; rfl⟩, hb5⟩, Below.trans hB (Below.trans (Below.mono HX1.out (Below.size hB)) hb3)⟩
        · skip
          refine step_in_round (by intro c h; cases h) ?_
          go_simp
          refine hK _ _ ?_
          clear hK K
          try simp only [Act.put, sT, s0, s1]
          refine wpAnyIn_ready (rs := [0]) (by kernel_rfl) (by simp) ?_
          refine AllReadyIn.cons (o := ⟨some 12, .load 23 (.tmp 4), 23, "chunk.go:22", #[], none⟩) rfl (fun K hK => ?_) (AllReadyIn.nil)
          refine step_in_round (by intro c h; cases h) ?_
          go_simp
          refine hK _ _ ?_
          clear hK K
          try simp only [Act.put, sT, s0, s1]
          refine wpAnyIn_ready (rs := [4]) (by kernel_rfl) (by simp) ?_
          refine AllReadyIn.cons (o := ⟨some 16, .call { callee := .builtin Go.Builtin.append, args := #[.tmp 12, .tmp 15], argTypes := #[23, 23] }, 23, "chunk.go:22", #[⟨0, .data⟩, ⟨3, .data⟩, ⟨2, .chain⟩], none⟩) rfl (fun K hK => ?_) (AllReadyIn.nil)
          refine step_in_round (by intro c h; cases h) ?_
          have hrow1 := ownsRow_ext hrow HX1.out
          refine step_append_lies _ rfl _ _ 23 rfl w.heap.size 22 i0 (.slice none 0 0) 1 24 Try.underlying23 hi hz0 hz1 hz2 rfl (by decide) v L.length (L.map Lst.val) rfl (hrow1.alloc _) ⟨w1.heap.size, 0, none⟩ 1 1 [.slice A' N' c'] rfl rfl (cell_one_new _ _ _) (by simp [Value.oneCell']) (by omega) (by unfold maxLen; omega) (by omega) (by have := HX1.out.size; have := Below.size hB; simp; omega) _ rfl ?_
          intro g2 cap2 w2 hown2 hgrow2 hlies2 _
          have hv1 : Boxed w1 w.heap.size 23 v := boxed_ext hv HX1.out
          obtain ⟨hv2, hv3, hr3, hk3, hb3⟩ := hv1.appended (by decide) hrow1 (Nat.le_trans (Below.size hB) HX1.out.size) (Nat.le_refl _) hown2 hgrow2
          have hcb := hv2.cell
          have hfb := hv2.frozen
          refine hK _ _ ?_
          clear hK K
          try simp only [Act.put, sT, s0, s1]
          refine wpAnyIn_ready (rs := [5]) (by kernel_rfl) (by simp) ?_
          refine AllReadyIn.cons (o := ⟨none, .store 23 (.tmp 4) (.tmp 16), 0, "chunk.go:22", #[⟨4, .data⟩, ⟨4, .chain⟩, ⟨0, .phase⟩, ⟨1, .phase⟩, ⟨2, .phase⟩, ⟨3, .phase⟩, ⟨4, .phase⟩], none⟩) rfl (fun K hK => ?_) (AllReadyIn.nil)
          refine step_in_round (by intro c h; cases h) ?_
          go_simp
          refine hK _ _ ?_
          clear hK K
          try simp only [Act.put, sT, s0, s1]
          refine wpAnyIn_done (by kernel_rfl) ?_ _
          gi_wp2
          have hb4 := boxed_ext hbl HX1.out
          have hb5 : Boxed (w2.setCell ⟨w.heap.size, 0, none⟩ (.slice (some ⟨g2, 0, none⟩) (L.length + 1) cap2)) (w.heap.size + 1) 22 (.slice A n c) := ((hb4.alloc _).kept hgrow2 (fun e => hne e.symm)).other (by omega) _
          refine ⟨(KeepsOthers.trans (KeepsOthers.of_grownBy (grown_of_ext HX1.out) (fun j o e => by cases e)) hk3).from _, mod_twoZ (Below.trans (Below.mono HX1.out (Below.size hB)) hb3) (hb5.trans hbl.symm), ⟨⟨_, L ++ [⟨A', N', c', chunkL bs x.1⟩], hv3, by rw [List.length_append, List.map_append]; exact hr3, hok.more ((Array.getElem?_eq_some_iff.1 hv).1) (fun k hk => (hrow.lt k hk).2) HX1.out HBY.out (fun p hp => by have := HFR.out p hp; exact this) hgrow2 hlies2 _, (fun e => by
            injection e with e
            have e2 : g2 = w.heap.size + 1 := e
            rcases hlies2 with h | h
            · rw [e2] at h; exact hne h
            · have := (Array.getElem?_eq_some_iff.1 hb4).1; simp at h; omega), by rw [List.map_append, List.map_append, hll]; rfl⟩, hb5⟩, Below.trans hB (Below.trans (Below.mono HX1.out (Below.size hB)) hb3)⟩
  case done =>
    rintro D ys W hD hys ⟨⟨⟨v, L, hv, hrow, hok, _, hll⟩, _⟩, hB⟩ hK
    have hc := hv.cell
    have hll2 : L.map (fun a => a.l) = splitL bs := by
      rw [hll]
      unfold splitL
      rw [hln, ← hys, List.map_map]
      rfl
    have HRW := Lib.hid (And.intro hrow (And.intro hok hll2))
    have HBB := Lib.hid hB
    clear hrow hys hB hv hok hll hll2
    go_wp2_with fail
    refine retM1 rfl hK (v := .tuple #[v, .int .i64 0]) ?_ ?_
    · simp [results, Try.results10, go_sem]
    · exact ⟨v, L, rfl, ownsRow_putObj HRW.out.1 _ hK rfl, HRW.out.2.1.grown (grownBy_putObj' W D _) (fun r e => by cases e; exact ⟨_, hK, rfl⟩), HRW.out.2.2, HBB.out.trans (belowK_b (w := w) (Nat.le_refl _) W D _ _ (Nat.le_trans HE.out.size hD) hK rfl rfl)⟩
  case stop =>
    rintro D c pre W _ _ h _
    exact h.elim
end
section
open Go Go.RowKit Go.Maps
section
variable {w w' : World} {h count bm nb : Nat} {f : Int → Option Lst}
end
end
section
open Go Go.RowKit Go.Shelf
attribute [local go_sem] Oper.semAt_some
end
section
open Go Go.RowKit Go.Shelf
attribute [local go_sem] Oper.semAt_some
end
section
open Go Go.RowKit Go.Maps
section
variable {w w' : World} {h count bm nb : Nat} {f : Int → Option Lst}
end
end
section
open Go Go.RowKit Go.Maps
section
variable {w : World} {p : Option Addr}
end
end
section
open Go Go.RowKit
def lsOf (L : List Lst) : List (List Nat) := L.map fun a => a.l
def joinE (l : List (List Nat)) : Int := if joinB l = true then 0 else 2
def joinO (l : List (List Nat)) : List Nat := if joinB l = true then l.flatten else []
theorem joinB_no {l : List (List Nat)} {k : Nat} (hk : k < l.length) (h : fitsC k l.length (l.getD k []).length = false) : joinB l = false := by
  cases hj : joinB l with
  | false => rfl
  | true =>
    have := (joinB_iff.1 hj).2 k hk
    rw [h] at this
    cases this
theorem joinB_len {l : List (List Nat)} (h : ¬ (1 ≤ l.length ∧ l.length ≤ 8)) : joinB l = false := by
  cases hj : joinB l with
  | false => rfl
  | true =>
    have h1 := (joinB_iff.1 hj).1
    have := (join_len hj).1
    omega
theorem lsts_parts {w : World} {B : Nat} {A : Option Addr} {n c : Nat} {L : List Lst} (h : Lsts w B A n c L) : Parts w B A n (L.map fun a => (Lst.val a, a.l)) := by
  refine ⟨by rw [List.length_map]; exact h.len, fun hn => ?_, fun p hp => ?_⟩
  · obtain ⟨g, o, e, hg, hc⟩ := h.rd hn
    refine ⟨g, o, e, hg, fun j p hp => ?_⟩
    rw [List.getElem?_map] at hp
    obtain ⟨a, ha, rfl⟩ := Option.map_eq_some_iff.1 hp
    exact hc j a ha
  · obtain ⟨a, ha, rfl⟩ := List.mem_map.1 hp
    exact ⟨a.A, a.n, a.c, rfl, h.each a ha⟩
theorem cat_parts (L : List Lst) : cat (L.map fun a => (Lst.val a, a.l)) = (lsOf L).flatten := by
  unfold cat lsOf
  rw [List.flatMap_def, List.map_map]
  rfl
theorem lsOf_get {L : List Lst} {k : Nat} {a : Lst} (h : L[k]? = some a) : (lsOf L).getD k [] = a.l := by
  unfold lsOf
  rw [List.getD_eq_getElem?_getD, List.getElem?_map, h]; rfl
set_option maxHeartbeats 1000000 in
theorem zjoin_own {w : World} (A : Option Addr) (n c : Nat) (L : List Lst) (h : Lsts w w.heap.size A n c L) :
    Calls Try.prog 13 #[.slice A n c] w fun e w' => ∃ A' N' c', e = .returned (.tuple #[.slice A' N' c', .int .i64 (joinE (lsOf L))]) ∧ By w' A' N' c' (joinO (lsOf L)) ∧ (∀ p, A' = some p → w.heap.size ≤ p.block) ∧ Ext w w' ∧ w'.ownsRow w.heap.size 5 1 (.slice A' N' c') N' (vb (joinO (lsOf L))) := by
  have HL := Lib.hid h
  have hcap := h.cap
  have hmost := h.most
  have hlen : (lsOf L).length = n := by unfold lsOf; rw [List.length_map]; exact h.len
  have HLEN := Lib.hid hlen
  clear h hlen
  by_cases hc : 1 ≤ n ∧ n ≤ 8
  · obtain ⟨hc1, hc8⟩ := hc
    have hin : inZ 1 (n : Int) 8 = true := inZ_iff.2 (by omega)
    have HIN := Lib.hid hin
    clear hin
    go_enter Try.func13, Try.ntmps13
    go_wp2_with fail
    refine (zcount_of _ _).mono ?_
    rw [HIN.out]
    rintro e w1 ⟨rfl, rfl⟩
    go_wp2_with fail
    go_loopw [12] (fun i wr => ∃ k : Nat, k ≤ n ∧ i = .int .i64 (k : Int) ∧ wr = w ∧ Hid (∀ j, j < k → fitsC j n ((lsOf L).getD j []).length = true)) (fun i _ => n - (intOf i).toNat)
    case atStart => exact ⟨0, by omega, by simp, rfl, Lib.hid fun j hj => by omega⟩
    case round =>
      obtain ⟨k, hk, rfl, rfl, HF⟩ := hrel
      by_cases hlt : k < n
      · obtain ⟨g, o, a, hA, hg, ha, hby, hcell⟩ := HL.out.at_ hlt
        subst hA
        have HGD := Lib.hid (lsOf_get ha)
        have HBL : Hid (a.l.length = a.n) := Lib.hid hby.len
        obtain ⟨aA, an, ac, al⟩ := a
        clear ha hby
        dsimp only at hcell
        cases hf : fitsC k n an with
        | true =>
          have HM := Lib.hid (zmay_of n ⟨hc1, hc8⟩ (k : Int) aA an ac wr)
          rw [fitsZ_nat, hf] at HM
          have HFK := Lib.hid hf
          clear hf
          go_wp2_with fail
          refine HM.out.mono ?_
          rintro e w1 ⟨rfl, rfl⟩
          go_wp2_with fail
          go_roundw
          case rel => exact ⟨k + 1, by omega, by go_num, (by first | rfl | trivial), Lib.hid fun j hj => by
            by_cases hjk : j = k
            · subst hjk
              rw [HGD.out, HBL.out]
              exact HFK.out
            · exact HF.out j (by omega)⟩
          case measure => simp [intOf]; omega
        | false =>
          have HM := Lib.hid (zmay_of n ⟨hc1, hc8⟩ (k : Int) aA an ac wr)
          rw [fitsZ_nat, hf] at HM
          have hno : joinB (lsOf L) = false := joinB_no (k := k) (by rw [HLEN.out]; exact hlt) (by rw [HLEN.out, HGD.out, HBL.out]; exact hf)
          have HNO := Lib.hid hno
          clear hf hno
          go_wp2_with fail
          refine HM.out.mono ?_
          rintro e w1 ⟨rfl, rfl⟩
          go_wp2_with fail
          refine bodyPost_ret (v := .tuple #[.slice none 0 0, .int .i64 2]) (by simp [results, Try.results13, go_sem]) rfl ?_
          refine ⟨none, 0, 0, by unfold joinE; rw [HNO.out]; rfl, by unfold joinO; rw [HNO.out]; exact By.nil_ _, (fun p hp => by cases hp), Ext.refl _, by unfold joinO; rw [HNO.out]; exact World.ownsRow_nil _ _ _ _⟩
      · obtain rfl : k = n := by omega
        have hyes : joinB (lsOf L) = true := joinB_iff.2 ⟨by rw [HLEN.out]; exact hc1, fun j hj => by rw [HLEN.out] at hj ⊢; exact HF.out j hj⟩
        have hfl := (join_len hyes).2.2
        have hj := join_any A k c (L.map fun a => (Lst.val a, a.l)) wr (lsts_parts HL.out) (by omega) (by rw [cat_parts]; omega)
        rw [cat_parts] at hj
        have HJ := Lib.hid hj
        have HY := Lib.hid hyes
        have hbt : ∀ b ∈ (lsOf L).flatten, b < 256 := fun b hb => by
          obtain ⟨x, hx, hbx⟩ := List.mem_flatten.1 hb
          obtain ⟨a, ha, rfl⟩ := List.mem_map.1 hx
          exact (HL.out.each a ha).rd.lt b hbx
        have HBT := Lib.hid hbt
        clear hyes hfl hj hbt
        go_wp2_with fail
        refine HJ.out.mono ?_
        rintro e w1 ⟨A', c', rfl, hown, hx⟩
        have HO := Lib.hid hown
        have HX : Hid (Ext wr w1) := Lib.hid hx
        clear hown hx
        go_wp2_with fail
        refine bodyPost_ret (v := .tuple #[.slice A' (lsOf L).flatten.length c', .int .i64 0]) (by simp [results, Try.results13, go_sem]) rfl ?_
        refine ⟨A', _, c', by unfold joinE; rw [HY.out]; rfl, by unfold joinO; rw [HY.out]; exact Bs.of_own HO.out HBT.out, (fun p hp => (own_fresh HO.out p hp).1), HX.out, by unfold joinO; rw [HY.out]; exact HO.out⟩
  · have hin : inZ 1 (n : Int) 8 = false := by unfold inZ; exact decide_eq_false (by omega)
    have HIN := Lib.hid hin
    have hno : joinB (lsOf L) = false := joinB_len (by rw [HLEN.out]; exact hc)
    have HNO := Lib.hid hno
    clear hin hno hc
    go_enter Try.func13, Try.ntmps13
    go_wp2_with fail
    refine (zcount_of _ _).mono ?_
    rw [HIN.out]
    rintro e w1 ⟨rfl, rfl⟩
    go_wp2_with fail
    refine bodyPost_ret (v := .tuple #[.slice none 0 0, .int .i64 2]) (by simp [results, Try.results13, go_sem]) rfl ?_
    refine ⟨none, 0, 0, by unfold joinE; rw [HNO.out]; rfl, by unfold joinO; rw [HNO.out]; exact By.nil_ _, (fun p hp => by cases hp), Ext.refl _, by unfold joinO; rw [HNO.out]; exact World.ownsRow_nil _ _ _ _⟩
end
end Go.Proofs.Ytnlappoocffcpaa

/-
  The contract of chunk.Split: the chunks of bytes, each in memory of its own, or ErrLong. (Its round's region by program: genzsplit.py.)
-/
import Derived.Test.YtmpaocpgoihliaaGreatDoorP00
import Derived.Test.YtmpaocpgoihliaaGreatDoorP06
import Derived.Test.YtmpaocpgoihliaaGreatDoorP12
import Derived.Test.YtmpaocpgoihliaaGreatDoorP13
import Derived.Deep.AppendLies
import Derived.Maps.AppendAt
import Derived.Maps.OwnSet
import Derived.Maps.Keyed
import Derived.Deep.DeepCutAuto
import Derived.RangeFuncNested
import Derived.RangeFuncBound
import Derived.RangeFuncCalls
import Derived.RangeFuncLeaves
import Derived.Shelf.Abstract
import Derived.Shelf.RegionOpen
import Derived.WalkKit
import Derived.OwnWalkIn
import Derived.TacticsInMore
import Derived.LoopNIn
import Derived.LoopIn
namespace Go.Proofs.YtmpaocpgoihliaaGreatDoor
set_option maxRecDepth 100000
section
open Go Go.RowKit Go.Shelf
attribute [local go_sem] Oper.semAt_some
def Lst.val (a : Lst) : Value := .slice a.A a.n a.c
def ByO (W : World) (b : Nat) (a : Lst) : Prop := By W a.A a.n a.c a.l ∧ W.ownsRow b 5 1 a.val a.n (vb a.l)
theorem own_lowZ {w : World} {b b' e sz n : Nat} {v : Value} {xs : List Value} (h : w.ownsRow b e sz v n xs) (hb : b' ≤ b) : w.ownsRow b' e sz v n xs := by
 refine ⟨h.1, ?_⟩
 rcases h.2 with h0 | ⟨g, cap, cur, h1, h2, h3⟩
 ·exact .inl h0
 ·exact .inr ⟨g, cap, cur, h1, Nat.le_trans hb h2, h3⟩
def LsOk (W : World) (b : Nat) (v : Value) (L : List Lst) : Prop := ∀ a ∈ L, ByO W b a ∧ ∀ p, a.A = some p → b < p.block ∧ p.block < W.heap.size ∧ v.ownBlock ≠ some p.block
theorem own_fresh {w w' : World} {A : Option Addr} {n c : Nat} {e : TypeId} {xs : List Value} (h : w'.ownsRow w.heap.size e 1 (.slice A n c) n xs) : ∀ p, A = some p → w.heap.size ≤ p.block ∧ p.block < w'.heap.size := fun p hp => by
 subst hp
 exact h.lt p.block rfl
theorem ownsRow_ext {w w' : World} {b e sz n : Nat} {v : Value} {xs : List Value} (h : w.ownsRow b e sz v n xs) (k : Ext w w') : w'.ownsRow b e sz v n xs := own_mod h (Mod.of_ext (F := fun _ => False) k) fun _ _ hf => hf
theorem boxed_ext {w w' : World} {b : Nat} {t : TypeId} {v : Value} (h : Boxed w b t v) (k : Ext w w') : Boxed w' b t v := h.kept (grown_of_ext k) (by simp)
theorem By.grown {W W' : World} {A : Option Addr} {n c : Nat} {l : List Nat} {row : Option Nat} (h : By W A n c l) (hg : W.grownBy W' row) (hr : ∀ r, row = some r → ∃ o : Obj, W.heap[r]? = some o ∧ o.isCells = false) : By W' A n c l := by
 cases l with
 | nil => exact ⟨h.len, h.cap, h.most, Rd.nil_, Bs.nil_ h⟩
 | cons x l =>
  obtain ⟨g, o, hA, hlt, hc⟩ := h.rd.2 (by simp)
  have h0 := hc 0 x rfl
  have hm : Mod (fun k => some k = row) W W' := ⟨hg.os, hg.tape, hg.output, hg.size, fun k hk hf => hg.block k hk hf⟩
  refine By.mod h hm ?_
  intro p hp hf
  rw [hA] at hp
  injection hp with hp
  subst hp
  obtain ⟨ob, ho, hcl⟩ := hr g hf.symm
  unfold World.cell? at h0
  rw [show (⟨g, o + 0, none⟩ : Addr).block = g from rfl, ho] at h0
  cases ob <;> simp [Obj.isCells] at hcl h0
theorem ByO.mod {W W' : World} {b : Nat} {a : Lst} {F : Nat → Prop} (h : ByO W b a) (k : Mod F W W') (ho : ∀ p, a.A = some p → ¬ F p.block) : ByO W' b a :=
 ⟨By.mod h.1 k ho, own_mod h.2 k fun i hi => by
  cases hA : a.A with
  | none => rw [Lst.val, hA] at hi; cases hi
  | some p =>
   rw [Lst.val, hA] at hi
   have hi : some p.block = some i := hi
   injection hi with hi
   subst hi
   exact ho p hA⟩
theorem ByO.ext {W W' : World} {b : Nat} {a : Lst} (h : ByO W b a) (k : Ext W W') : ByO W' b a := ⟨By.ext h.1 k, ownsRow_ext h.2 k⟩
theorem ByO.grown {W W' : World} {b : Nat} {a : Lst} {row : Option Nat} (h : ByO W b a) (hg : W.grownBy W' row) (hr : ∀ r, row = some r → ∃ o : Obj, W.heap[r]? = some o ∧ o.isCells = false) : ByO W' b a := by
 have hm : Mod (fun k => some k = row) W W' := ⟨hg.os, hg.tape, hg.output, hg.size, fun k hk hf => hg.block k hk hf⟩
 refine ⟨By.grown h.1 hg hr, own_mod h.2 hm fun i hi hf => ?_⟩
 obtain ⟨o, ho, hc⟩ := hr i hf.symm
 rcases h.2.2 with ⟨hv, _⟩ | ⟨g, cap, cur, hv, _, hgo, _⟩
 ·rw [hv] at hi; cases hi
 ·rw [hv] at hi
  have hi : some g = some i := hi
  injection hi with hi
  subst hi
  rw [hgo] at ho
  cases ho
  cases hc
theorem LsOk.grown {W W' : World} {b : Nat} {v : Value} {L : List Lst} {row : Option Nat} (h : LsOk W b v L) (hg : W.grownBy W' row) (hr : ∀ r, row = some r → ∃ o : Obj, W.heap[r]? = some o ∧ o.isCells = false) : LsOk W' b v L := fun a ha =>
 ⟨(h a ha).1.grown hg hr, fun p hp => by
   obtain ⟨h1, h2, h3⟩ := (h a ha).2 p hp
   exact ⟨h1, Nat.lt_of_lt_of_le h2 hg.size, h3⟩⟩
theorem LsOk.more {W w1 w2 : World} {b g cap m : Nat} {v : Value} {L : List Lst} {tmp : Obj} {a0 : Lst} (h : LsOk W b v L) (hb : b < W.heap.size) (hvo : ∀ k, v.ownBlock = some k → k < W.heap.size) (hx : Ext W w1) (hby : ByO w1 b a0) (hfr : ∀ p, a0.A = some p → W.heap.size ≤ p.block ∧ p.block < w1.heap.size)
 (hg : (w1.alloc tmp).grownBy w2 v.ownBlock) (hgl : v.ownBlock = some g ∨ g = (w1.alloc tmp).heap.size) (u : Value) : LsOk (w2.setCell ⟨b, 0, none⟩ u) b (.slice (some ⟨g, 0, none⟩) m cap) (L ++ [a0]) := by
 have hs1 := hx.size
 have hs2 : (w1.alloc tmp).heap.size = w1.heap.size + 1 := World.size_alloc _ _
 have hs3 := hg.size
 have hs4 : (w2.setCell ⟨b, 0, none⟩ u).heap.size = w2.heap.size := by simp [World.setCell]
 have hm : Mod (fun k => k = b ∨ some k = v.ownBlock) w1 (w2.setCell ⟨b, 0, none⟩ u) := by
  have h1 : Mod (fun k => k = b ∨ some k = v.ownBlock) w1 (w1.alloc tmp) := Mod.of_ext ((Ext.refl w1).alloc tmp)
  have h2 : Mod (fun k => k = b ∨ some k = v.ownBlock) w1 w2 := h1.grown hg fun k hk => .inl (.inr hk.symm)
  exact Mod.setCell h2 (p := ⟨b, 0, none⟩) (.inl (.inl rfl)) u
 intro a ha
 rcases List.mem_append.1 ha with ha | ha
 ·obtain ⟨h1, h2⟩ := h a ha
  refine ⟨ByO.mod (h1.ext hx) hm fun p hp hf => ?_, fun p hp => ?_⟩
  ·obtain ⟨q1, _, q3⟩ := h2 p hp
   rcases hf with hf | hf
   ·omega
   ·exact q3 hf.symm
  ·obtain ⟨q1, q2, q3⟩ := h2 p hp
   refine ⟨q1, by omega, fun e => ?_⟩
   injection e with e
   rcases hgl with hgl | hgl
   ·have e2 : g = p.block := e
    rw [e2] at hgl; exact q3 hgl
   ·have : g = p.block := e
    omega
 ·rw [List.mem_singleton] at ha
  subst ha
  refine ⟨ByO.mod hby hm fun p hp hf => ?_, fun p hp => ?_⟩
  ·obtain ⟨q1, q2⟩ := hfr p hp
   rcases hf with hf | hf
   ·omega
   ·have := hvo _ hf.symm
    omega
  ·obtain ⟨q1, q2⟩ := hfr p hp
   refine ⟨by omega, by omega, fun e => ?_⟩
   injection e with e
   have e2 : g = p.block := e
   rcases hgl with hgl | hgl
   ·have := hvo _ hgl
    omega
   ·omega
theorem sl_infoZ : (Tryz.prog.info? 45).map (fun i => (i.zero, i.size, i.bytes)) = some (some (.slice none 0 0), 1, 24) := by kernel_rfl
def SplJ (b : Nat) (w : World) (A : Option Addr) (n c : Nat) (bs : List Nat) (pre : List (PcIn n)) (W : World) : Prop :=
 ((∃ v L, Boxed W b 62 v ∧ W.ownsRow b 45 1 v L.length (L.map Lst.val) ∧ LsOk W b v L ∧ v.ownBlock ≠ some (b + 1) ∧ L.map (fun a => a.l) = pre.map fun x => chunkL bs x.1) ∧ Boxed W (b + 1) 45 (.slice A n c)) ∧ Below b w W
theorem splJ_own {b : Nat} {w : World} {A : Option Addr} {n c : Nat} {bs : List Nat} (h0 : b = w.heap.size) (B : Nat) (hB : b ≤ B) : OwnFrom B (SplJ b w A n c bs) := by
 rintro pre W W' row ⟨⟨⟨v, L, hv, hrow, hok, hne, hl⟩, hbl⟩, hbel⟩ hg hr
 refine ⟨⟨⟨v, L, ?_, ?_, hok.grown hg (fun r e => (hr r e).2), hne, hl⟩, ?_⟩, ?_⟩
 ·exact hv.kept hg (fun e => by obtain ⟨_, o, ho, hc⟩ := hr b e.symm; rw [show W.heap[b]? = _ from hv] at ho; cases ho; cases hc)
 ·refine ⟨hrow.1, ?_⟩
  rcases hrow.2 with h0 | ⟨g, cap, cur, rfl, h1, hgb, h2⟩
  ·exact .inl h0
  ·refine .inr ⟨g, cap, cur, rfl, h1, (hg.block g (Array.getElem?_eq_some_iff.1 hgb).1 fun e => ?_).trans hgb, h2⟩
   obtain ⟨_, o, ho, hc⟩ := hr g e.symm
   rw [hgb] at ho
   cases ho
   cases hc
 ·exact hbl.kept hg (fun e => by obtain ⟨_, o, ho, hc⟩ := hr (b + 1) e.symm; rw [show W.heap[b + 1]? = _ from hbl] at ho; cases ho; cases hc)
 ·exact Below.grown hbel hg (by have := Below.size hbel; omega) fun j e => Nat.le_trans hB (hr j e).1
theorem mod_twoZ {b : Nat} {W W' : World} (h : Below b W W') (hk : W'.heap[b + 1]? = W.heap[b + 1]?) : Mod (fun k => b ≤ k ∧ k ≠ b + 1) W W' :=
 ⟨h.os, h.tape, h.output, Below.size h, fun k hlt hg => by
  by_cases e : k = b + 1
  ·subst e
   exact hk
  ·exact h.block k (by omega)⟩
def SplX (b : Nat) (A : Option Addr) (n c : Nat) (fv : Value) (x : PcIn n) (a' : Act) (_ : World) : Prop := a' = { tmps := #[.slice A n c, undef, .slice none 0 0, .int .i64 0, .pointer (some ⟨b, 0, none⟩), pcV A n c x.1, .slice A n c, .int .i64 (n : Int), .bool (decide ((640 : Int) < (n : Int))), .slice A n c, fv, pcV A n c x.1, undef, undef, undef, undef, undef, undef], defers := [] }
set_option maxHeartbeats 1600000 in
theorem zsplit_no (A : Option Addr) (n c : Nat) (hn : 640 < n) (w : World) :
 Calls Tryz.prog 74 #[.slice A n c] w fun e w' => e = .returned (.tuple #[.slice none 0 0, .int .i64 3]) ∧ Ext w w' := by
 refine calls_marks Tryz.func74 rfl ?_
 simp only [Tryz.ntmps74, List.size_toArray, List.length_cons, List.length_nil, Nat.reduceAdd, Nat.reduceSub, Array.replicate_succ, Array.replicate_zero, List.push_toArray, List.append_toArray, List.nil_append, List.cons_append]
 go_wp2_with fail
 refine retM0 (v := .tuple #[.slice none 0 0, .int .i64 3]) rfl ?_ ?_
 ·simp [results, Tryz.results74, go_sem]
 ·exact ⟨rfl, Ext.refl w⟩
set_option maxHeartbeats 1600000 in
theorem zsplit_yes {w : World} (A : Option Addr) (n c : Nat) (bs : List Nat) (hb : By w A n c bs) (hn : n ≤ 640) :
 Calls Tryz.prog 74 #[.slice A n c] w fun e w' => ∃ v L, e = .returned (.tuple #[v, .int .i64 0]) ∧ w'.ownsRow w.heap.size 45 1 v L.length (L.map Lst.val) ∧ LsOk w' w.heap.size v L ∧ L.map (fun a => a.l) = splitL bs ∧ Ext w w' := by
 obtain ⟨i0, hi, hz0, hz1, hz2⟩ := info_parts sl_infoZ
 have hcn := hb.cap
 have hln := hb.len
 have hE : Ext w ((w.alloc (.cells #[.slice none 0 0] 62)).alloc (.cells #[.slice A n c] 45)) := ((Ext.refl w).alloc _).alloc _
 have bO : Boxed ((w.alloc (.cells #[.slice none 0 0] 62)).alloc (.cells #[.slice A n c] 45)) w.heap.size 62 (.slice none 0 0) := (Boxed.new w _ _).alloc _
 have bL : Boxed ((w.alloc (.cells #[.slice none 0 0] 62)).alloc (.cells #[.slice A n c] 45)) (w.heap.size + 1) 45 (.slice A n c) := by
  have := Boxed.new (w.alloc (.cells #[.slice none 0 0] 62)) 45 (.slice A n c)
  rwa [World.size_alloc] at this
 have hst := zpieces_stops 8 (by omega) (w.heap.size + 1) (fun k => w.heap.size ≤ k ∧ k ≠ w.heap.size + 1) A n c hn hcn _ (by omega) bL.cell
 have HST := Lib.hid hst
 have HE := Lib.hid hE
 have HB := Lib.hid (And.intro bO bL)
 have HBY := Lib.hid hb
 clear hst hE bO bL hb
 refine calls_marks Tryz.func74 rfl ?_
 simp only [Tryz.ntmps74, List.size_toArray, List.length_cons, List.length_nil, Nat.reduceAdd, Nat.reduceSub, Array.replicate_succ, Array.replicate_zero, List.push_toArray, List.append_toArray, List.nil_append, List.cons_append]
 go_wp2_with fail
 refine (zpieces_of A n c _).mono ?_
 rintro e w1 ⟨rfl, rfl⟩
 go_wp2_with fail
 refine (wpIn_wide (n := 9)).1 ?_
 refine wpIn_rangeFunc_ownH (F := Fence.wide) (n := 9) rfl (by omega) (gf := 215) (lb := #[.pointer (some ⟨w.heap.size + 1, 0, none⟩)]) rfl trivial (enters_of Tryz.func215 (by kernel_rfl) rfl)
  HST.out (fun h k => h.trans k fun _ hi => .inl hi) (fun W l o o' hl ho _ _ => mod_put (w := (w.alloc (.cells #[.slice none 0 0] 62)).alloc (.cells #[.slice A n c] 45)) l o o' (fun k hk => by simp at hk; omega) hl ho) (Below.refl _ _) (fun _ => rfl)
  (SplJ w.heap.size w A n c bs)
  (fun _ _ _ => False)
  (splJ_own rfl _ (by have := HE.out.size; omega))
  (fun _ _ _ _ _ hs _ _ => hs)
  ⟨⟨⟨_, [], HB.out.1, World.ownsRow_nil _ _ _ _, (fun a ha => by cases ha), (fun e => by cases e), rfl⟩, HB.out.2⟩, HE.out⟩
  (SplX w.heap.size A n c (.func (.func 215) #[] #[.pointer (some ⟨w.heap.size + 1, 0, none⟩)]))
  (fun _ _ _ _ _ _ hs _ _ => hs) ?assign ?body ?done ?stop
 case assign =>
  intro l pre x W K hI hK
  dsimp only [encPc]
  gi_wp2
  exact hK _ _ (KeepsFrom.refl _ _) (Mod.refl _ _) hI rfl
 case body =>
  rintro l pre x a' W hl _ ⟨⟨⟨v, L, hv, hrow, hok, hne, hll⟩, hbl⟩, hB⟩ rfl hlt
  have hL9 : L.length < 8 := by
   have h1 := congrArg List.length hll
   rw [List.length_map, List.length_map] at h1
   have := (chunkN_in hn).2.1
   omega
  have hxk : 80 * x.1 ≤ n := by
   have h8 := chunkN_in hn
   have hx := x.2
   by_cases h : x.1 = 0
   ·omega
   ·have := h8.2.2.2 (by omega)
    have : 80 * x.1 ≤ 80 * (chunkN n - 1) := Nat.mul_le_mul_left _ (by omega)
    omega
  have HCL : Hid (∀ V, Ext W V → Calls Tryz.prog 165 #[pcV A n c x.1] V fun e w' => ∃ A' c', e = .returned (.slice A' (min 80 (n - 80 * x.1)) c') ∧ By w' A' (min 80 (n - 80 * x.1)) c' (chunkL bs x.1) ∧ Ext V w' ∧ w'.ownsRow V.heap.size 5 1 (.slice A' (min 80 (n - 80 * x.1)) c') (min 80 (n - 80 * x.1)) (vb (chunkL bs x.1))) := Lib.hid fun V hV =>
   sclone_by _ _ _ _ V (By.chunk ((HBY.out.ext hB).ext hV) x.1 hxk) (by omega)
  obtain ⟨N', hN'⟩ : ∃ N', min 80 (n - 80 * x.1) = N' := ⟨_, rfl⟩
  rw [hN'] at HCL
  have hN80 : N' ≤ 80 := by omega
  obtain ⟨pv, hpv⟩ : ∃ pv, pcV A n c x.1 = pv := ⟨_, rfl⟩
  rw [hpv] at HCL ⊢
  clear hN' hpv hxk
  have hc : W.drew.cell? ⟨w.heap.size, 0, none⟩ = some v := hv.cell
  gi_wp2
  refine wpIn_region_any (by kernel_rfl) ?_
  change wpAnyIn _ _ _ _ _ _ _ _ _ (World.drew _)
  refine wpAnyIn_ready (rs := [0, 1]) (by kernel_rfl) (by simp) ?_
  refine AllReadyIn.cons (o := ⟨some 12, .load 62 (.tmp 4), 62, "chunk.go:22", #[], none⟩) rfl (fun K hK => ?_) (AllReadyIn.cons (o := ⟨some 13, .move (.tmp 5), 45, "chunk.go:22", #[], none⟩) rfl (fun K hK => ?_) (AllReadyIn.nil))
  ·skip
   refine step_in_round (by intro c h; cases h) ?_
   go_simp
   refine hK _ _ ?_
   clear hK K
   try simp only [Act.put, sT, s0, s1]
   refine wpAnyIn_ready (rs := [1]) (by kernel_rfl) (by simp) ?_
   refine AllReadyIn.cons (o := ⟨some 13, .move (.tmp 5), 45, "chunk.go:22", #[], none⟩) rfl (fun K hK => ?_) (AllReadyIn.nil)
   refine step_in_round (by intro c h; cases h) ?_
   go_simp
   refine hK _ _ ?_
   clear hK K
   try simp only [Act.put, sT, s0, s1]
   refine wpAnyIn_ready (rs := [2]) (by kernel_rfl) (by simp) ?_
   refine AllReadyIn.cons (o := ⟨some 14, .call { callee := .value (.func 165), args := #[.tmp 13], argTypes := #[45] }, 45, "chunk.go:22", #[⟨1, .data⟩], none⟩) rfl (fun K hK => ?_) (AllReadyIn.nil)
   refine step_in_round (by intro c h; cases h) ?_
   go_simp
   refine (HCL.out _ (Ext.refl W).drew).mono ?_
   rintro e w1 ⟨A', c', rfl, hby, hx, hown⟩
   have HX1 := Lib.hid (Ext.trans (Ext.refl W).drew hx)
   have HBY := Lib.hid (show ByO w1 w.heap.size ⟨A', N', c', chunkL bs x.1⟩ from ⟨hby, own_lowZ hown (show w.heap.size ≤ W.heap.size from Below.size hB)⟩)
   have HFR := Lib.hid (own_fresh hown)
   have hc1 : w1.cell? ⟨w.heap.size, 0, none⟩ = some v := ext_of_cell hx hc
   have hc2 := ext_of_cell ((Ext.refl w1).alloc (.cells #[.slice A' N' c'] 45)) hc1
   clear hx hby hown
   go_wp2_with fail
   try simp only [Act.put, sT, s0, s1]
   refine wpAnyIn_ready (rs := [3]) (by kernel_rfl) (by simp) ?_
   refine AllReadyIn.cons (o := ⟨some 15, .buildSlice 62 1 #[(0, .tmp 14)], 62, "chunk.go:22", #[⟨2, .data⟩], none⟩) rfl (fun K hK => ?_) (AllReadyIn.nil)
   refine step_in_round (by intro c h; cases h) ?_
   go_simp
   refine hK _ _ ?_
   clear hK K
   try simp only [Act.put, sT, s0, s1]
   refine wpAnyIn_ready (rs := [4]) (by kernel_rfl) (by simp) ?_
   refine AllReadyIn.cons (o := ⟨some 16, .call { callee := .builtin Go.Builtin.append, args := #[.tmp 12, .tmp 15], argTypes := #[62, 62] }, 62, "chunk.go:22", #[⟨0, .data⟩, ⟨3, .data⟩, ⟨2, .chain⟩], none⟩) rfl (fun K hK => ?_) (AllReadyIn.nil)
   refine step_in_round (by intro c h; cases h) ?_
   have hrow1 := ownsRow_ext hrow HX1.out
   refine step_append_lies _ rfl _ _ 62 rfl w.heap.size 45 i0 (.slice none 0 0) 1 24 Tryz.underlying62 hi hz0 hz1 hz2 rfl (by decide) v L.length (L.map Lst.val) rfl (hrow1.alloc _) ⟨w1.heap.size, 0, none⟩ 1 1 [.slice A' N' c'] rfl rfl (cell_one_new _ _ _) (by simp [Value.oneCell']) (by omega) (by unfold maxLen; omega) (by omega) (by have := HX1.out.size; have := Below.size hB; simp; omega) _ rfl ?_
   intro g2 cap2 w2 hown2 hgrow2 hlies2 _
   have hv1 : Boxed w1 w.heap.size 62 v := boxed_ext hv HX1.out
   obtain ⟨hv2, hv3, hr3, hk3, hb3⟩ := hv1.appended (by decide) hrow1 (Nat.le_trans (Below.size hB) HX1.out.size) (Nat.le_refl _) hown2 hgrow2
   have hcb := hv2.cell
   have hfb := hv2.frozen
   refine hK _ _ ?_
   clear hK K
   try simp only [Act.put, sT, s0, s1]
   refine wpAnyIn_ready (rs := [5]) (by kernel_rfl) (by simp) ?_
   refine AllReadyIn.cons (o := ⟨none, .store 62 (.tmp 4) (.tmp 16), 0, "chunk.go:22", #[⟨4, .data⟩, ⟨4, .chain⟩, ⟨0, .phase⟩, ⟨1, .phase⟩, ⟨2, .phase⟩, ⟨3, .phase⟩, ⟨4, .phase⟩], none⟩) rfl (fun K hK => ?_) (AllReadyIn.nil)
   refine step_in_round (by intro c h; cases h) ?_
   go_simp
   refine hK _ _ ?_
   clear hK K
   try simp only [Act.put, sT, s0, s1]
   refine wpAnyIn_done (by kernel_rfl) ?_ _
   gi_wp2
   have hb4 := boxed_ext hbl HX1.out
   have hb5 : Boxed (w2.setCell ⟨w.heap.size, 0, none⟩ (.slice (some ⟨g2, 0, none⟩) (L.length + 1) cap2)) (w.heap.size + 1) 45 (.slice A n c) := ((hb4.alloc _).kept hgrow2 (fun e => hne e.symm)).other (by omega) _
   refine ⟨(KeepsOthers.trans (KeepsOthers.of_grownBy (grown_of_ext HX1.out) (fun j o e => by cases e)) hk3).from _, mod_twoZ (Below.trans (Below.mono HX1.out (Below.size hB)) hb3) (hb5.trans hbl.symm), ⟨⟨_, L ++ [⟨A', N', c', chunkL bs x.1⟩], hv3, by rw [List.length_append, List.map_append]; exact hr3, hok.more ((Array.getElem?_eq_some_iff.1 hv).1) (fun k hk => (hrow.lt k hk).2) HX1.out HBY.out (fun p hp => by have := HFR.out p hp; exact this) hgrow2 hlies2 _, (fun e => by
    injection e with e
    have e2 : g2 = w.heap.size + 1 := e
    rcases hlies2 with h | h
    ·rw [e2] at h; exact hne h
    ·have := (Array.getElem?_eq_some_iff.1 hb4).1; simp at h; omega), by rw [List.map_append, List.map_append, hll]; rfl⟩, hb5⟩, Below.trans hB (Below.trans (Below.mono HX1.out (Below.size hB)) hb3)⟩
  ·skip
   refine step_in_round (by intro c h; cases h) ?_
   go_simp
   refine hK _ _ ?_
   clear hK K
   try simp only [Act.put, sT, s0, s1]
   refine wpAnyIn_ready (rs := [0, 2]) (by kernel_rfl) (by simp) ?_
   refine AllReadyIn.cons (o := ⟨some 12, .load 62 (.tmp 4), 62, "chunk.go:22", #[], none⟩) rfl (fun K hK => ?_) (AllReadyIn.cons (o := ⟨some 14, .call { callee := .value (.func 165), args := #[.tmp 13], argTypes := #[45] }, 45, "chunk.go:22", #[⟨1, .data⟩], none⟩) rfl (fun K hK => ?_) (AllReadyIn.nil))
   ·skip
    refine step_in_round (by intro c h; cases h) ?_
    go_simp
    refine hK _ _ ?_
    clear hK K
    try simp only [Act.put, sT, s0, s1]
    refine wpAnyIn_ready (rs := [2]) (by kernel_rfl) (by simp) ?_
    refine AllReadyIn.cons (o := ⟨some 14, .call { callee := .value (.func 165), args := #[.tmp 13], argTypes := #[45] }, 45, "chunk.go:22", #[⟨1, .data⟩], none⟩) rfl (fun K hK => ?_) (AllReadyIn.nil)
    refine step_in_round (by intro c h; cases h) ?_
    go_simp
    refine (HCL.out _ (Ext.refl W).drew).mono ?_
    rintro e w1 ⟨A', c', rfl, hby, hx, hown⟩
    have HX1 := Lib.hid (Ext.trans (Ext.refl W).drew hx)
    have HBY := Lib.hid (show ByO w1 w.heap.size ⟨A', N', c', chunkL bs x.1⟩ from ⟨hby, own_lowZ hown (show w.heap.size ≤ W.heap.size from Below.size hB)⟩)
    have HFR := Lib.hid (own_fresh hown)
    have hc1 : w1.cell? ⟨w.heap.size, 0, none⟩ = some v := ext_of_cell hx hc
    have hc2 := ext_of_cell ((Ext.refl w1).alloc (.cells #[.slice A' N' c'] 45)) hc1
    clear hx hby hown
    go_wp2_with fail
    try simp only [Act.put, sT, s0, s1]
    refine wpAnyIn_ready (rs := [3]) (by kernel_rfl) (by simp) ?_
    refine AllReadyIn.cons (o := ⟨some 15, .buildSlice 62 1 #[(0, .tmp 14)], 62, "chunk.go:22", #[⟨2, .data⟩], none⟩) rfl (fun K hK => ?_) (AllReadyIn.nil)
    refine step_in_round (by intro c h; cases h) ?_
    go_simp
    refine hK _ _ ?_
    clear hK K
    try simp only [Act.put, sT, s0, s1]
    refine wpAnyIn_ready (rs := [4]) (by kernel_rfl) (by simp) ?_
    refine AllReadyIn.cons (o := ⟨some 16, .call { callee := .builtin Go.Builtin.append, args := #[.tmp 12, .tmp 15], argTypes := #[62, 62] }, 62, "chunk.go:22", #[⟨0, .data⟩, ⟨3, .data⟩, ⟨2, .chain⟩], none⟩) rfl (fun K hK => ?_) (AllReadyIn.nil)
    refine step_in_round (by intro c h; cases h) ?_
    have hrow1 := ownsRow_ext hrow HX1.out
    refine step_append_lies _ rfl _ _ 62 rfl w.heap.size 45 i0 (.slice none 0 0) 1 24 Tryz.underlying62 hi hz0 hz1 hz2 rfl (by decide) v L.length (L.map Lst.val) rfl (hrow1.alloc _) ⟨w1.heap.size, 0, none⟩ 1 1 [.slice A' N' c'] rfl rfl (cell_one_new _ _ _) (by simp [Value.oneCell']) (by omega) (by unfold maxLen; omega) (by omega) (by have := HX1.out.size; have := Below.size hB; simp; omega) _ rfl ?_
    intro g2 cap2 w2 hown2 hgrow2 hlies2 _
    have hv1 : Boxed w1 w.heap.size 62 v := boxed_ext hv HX1.out
    obtain ⟨hv2, hv3, hr3, hk3, hb3⟩ := hv1.appended (by decide) hrow1 (Nat.le_trans (Below.size hB) HX1.out.size) (Nat.le_refl _) hown2 hgrow2
    have hcb := hv2.cell
    have hfb := hv2.frozen
    refine hK _ _ ?_
    clear hK K
    try simp only [Act.put, sT, s0, s1]
    refine wpAnyIn_ready (rs := [5]) (by kernel_rfl) (by simp) ?_
    refine AllReadyIn.cons (o := ⟨none, .store 62 (.tmp 4) (.tmp 16), 0, "chunk.go:22", #[⟨4, .data⟩, ⟨4, .chain⟩, ⟨0, .phase⟩, ⟨1, .phase⟩, ⟨2, .phase⟩, ⟨3, .phase⟩, ⟨4, .phase⟩], none⟩) rfl (fun K hK => ?_) (AllReadyIn.nil)
    refine step_in_round (by intro c h; cases h) ?_
    go_simp
    refine hK _ _ ?_
    clear hK K
    try simp only [Act.put, sT, s0, s1]
    refine wpAnyIn_done (by kernel_rfl) ?_ _
    gi_wp2
    have hb4 := boxed_ext hbl HX1.out
    have hb5 : Boxed (w2.setCell ⟨w.heap.size, 0, none⟩ (.slice (some ⟨g2, 0, none⟩) (L.length + 1) cap2)) (w.heap.size + 1) 45 (.slice A n c) := ((hb4.alloc _).kept hgrow2 (fun e => hne e.symm)).other (by omega) _
    refine ⟨(KeepsOthers.trans (KeepsOthers.of_grownBy (grown_of_ext HX1.out) (fun j o e => by cases e)) hk3).from _, mod_twoZ (Below.trans (Below.mono HX1.out (Below.size hB)) hb3) (hb5.trans hbl.symm), ⟨⟨_, L ++ [⟨A', N', c', chunkL bs x.1⟩], hv3, by rw [List.length_append, List.map_append]; exact hr3, hok.more ((Array.getElem?_eq_some_iff.1 hv).1) (fun k hk => (hrow.lt k hk).2) HX1.out HBY.out (fun p hp => by have := HFR.out p hp; exact this) hgrow2 hlies2 _, (fun e => by
     injection e with e
     have e2 : g2 = w.heap.size + 1 := e
     rcases hlies2 with h | h
     ·rw [e2] at h; exact hne h
     ·have := (Array.getElem?_eq_some_iff.1 hb4).1; simp at h; omega), by rw [List.map_append, List.map_append, hll]; rfl⟩, hb5⟩, Below.trans hB (Below.trans (Below.mono HX1.out (Below.size hB)) hb3)⟩
   ·skip
    refine step_in_round (by intro c h; cases h) ?_
    go_simp
    refine (HCL.out _ (Ext.refl W).drew).mono ?_
    rintro e w1 ⟨A', c', rfl, hby, hx, hown⟩
    have HX1 := Lib.hid (Ext.trans (Ext.refl W).drew hx)
    have HBY := Lib.hid (show ByO w1 w.heap.size ⟨A', N', c', chunkL bs x.1⟩ from ⟨hby, own_lowZ hown (show w.heap.size ≤ W.heap.size from Below.size hB)⟩)
    have HFR := Lib.hid (own_fresh hown)
    have hc1 : w1.cell? ⟨w.heap.size, 0, none⟩ = some v := ext_of_cell hx hc
    have hc2 := ext_of_cell ((Ext.refl w1).alloc (.cells #[.slice A' N' c'] 45)) hc1
    clear hx hby hown
    go_wp2_with fail
    try simp only [Act.put, sT, s0, s1]
    refine wpAnyIn_ready (rs := [0, 3]) (by kernel_rfl) (by simp) ?_
    refine AllReadyIn.cons (o := ⟨some 12, .load 62 (.tmp 4), 62, "chunk.go:22", #[], none⟩) rfl (fun K hK => ?_) (AllReadyIn.cons (o := ⟨some 15, .buildSlice 62 1 #[(0, .tmp 14)], 62, "chunk.go:22", #[⟨2, .data⟩], none⟩) rfl (fun K hK => ?_) (AllReadyIn.nil))
    ·skip
     refine step_in_round (by intro c h; cases h) ?_
     go_simp
     refine hK _ _ ?_
     clear hK K
     try simp only [Act.put, sT, s0, s1]
     refine wpAnyIn_ready (rs := [3]) (by kernel_rfl) (by simp) ?_
     refine AllReadyIn.cons (o := ⟨some 15, .buildSlice 62 1 #[(0, .tmp 14)], 62, "chunk.go:22", #[⟨2, .data⟩], none⟩) rfl (fun K hK => ?_) (AllReadyIn.nil)
     refine step_in_round (by intro c h; cases h) ?_
     go_simp
     refine hK _ _ ?_
     clear hK K
     try simp only [Act.put, sT, s0, s1]
     refine wpAnyIn_ready (rs := [4]) (by kernel_rfl) (by simp) ?_
     refine AllReadyIn.cons (o := ⟨some 16, .call { callee := .builtin Go.Builtin.append, args := #[.tmp 12, .tmp 15], argTypes := #[62, 62] }, 62, "chunk.go:22", #[⟨0, .data⟩, ⟨3, .data⟩, ⟨2, .chain⟩], none⟩) rfl (fun K hK => ?_) (AllReadyIn.nil)
     refine step_in_round (by intro c h; cases h) ?_
     have hrow1 := ownsRow_ext hrow HX1.out
     refine step_append_lies _ rfl _ _ 62 rfl w.heap.size 45 i0 (.slice none 0 0) 1 24 Tryz.underlying62 hi hz0 hz1 hz2 rfl (by decide) v L.length (L.map Lst.val) rfl (hrow1.alloc _) ⟨w1.heap.size, 0, none⟩ 1 1 [.slice A' N' c'] rfl rfl (cell_one_new _ _ _) (by simp [Value.oneCell']) (by omega) (by unfold maxLen; omega) (by omega) (by have := HX1.out.size; have := Below.size hB; simp; omega) _ rfl ?_
     intro g2 cap2 w2 hown2 hgrow2 hlies2 _
     have hv1 : Boxed w1 w.heap.size 62 v := boxed_ext hv HX1.out
     obtain ⟨hv2, hv3, hr3, hk3, hb3⟩ := hv1.appended (by decide) hrow1 (Nat.le_trans (Below.size hB) HX1.out.size) (Nat.le_refl _) hown2 hgrow2
     have hcb := hv2.cell
     have hfb := hv2.frozen
     refine hK _ _ ?_
     clear hK K
     try simp only [Act.put, sT, s0, s1]
     refine wpAnyIn_ready (rs := [5]) (by kernel_rfl) (by simp) ?_
     refine AllReadyIn.cons (o := ⟨none, .store 62 (.tmp 4) (.tmp 16), 0, "chunk.go:22", #[⟨4, .data⟩, ⟨4, .chain⟩, ⟨0, .phase⟩, ⟨1, .phase⟩, ⟨2, .phase⟩, ⟨3, .phase⟩, ⟨4, .phase⟩], none⟩) rfl (fun K hK => ?_) (AllReadyIn.nil)
     refine step_in_round (by intro c h; cases h) ?_
     go_simp
     refine hK _ _ ?_
     clear hK K
     try simp only [Act.put, sT, s0, s1]
     refine wpAnyIn_done (by kernel_rfl) ?_ _
     gi_wp2
     have hb4 := boxed_ext hbl HX1.out
     have hb5 : Boxed (w2.setCell ⟨w.heap.size, 0, none⟩ (.slice (some ⟨g2, 0, none⟩) (L.length + 1) cap2)) (w.heap.size + 1) 45 (.slice A n c) := ((hb4.alloc _).kept hgrow2 (fun e => hne e.symm)).other (by omega) _
     refine ⟨(KeepsOthers.trans (KeepsOthers.of_grownBy (grown_of_ext HX1.out) (fun j o e => by cases e)) hk3).from _, mod_twoZ (Below.trans (Below.mono HX1.out (Below.size hB)) hb3) (hb5.trans hbl.symm), ⟨⟨_, L ++ [⟨A', N', c', chunkL bs x.1⟩], hv3, by rw [List.length_append, List.map_append]; exact hr3, hok.more ((Array.getElem?_eq_some_iff.1 hv).1) (fun k hk => (hrow.lt k hk).2) HX1.out HBY.out (fun p hp => by have := HFR.out p hp; exact this) hgrow2 hlies2 _, (fun e => by
      injection e with e
      have e2 : g2 = w.heap.size + 1 := e
      rcases hlies2 with h | h
      ·rw [e2] at h; exact hne h
      ·have := (Array.getElem?_eq_some_iff.1 hb4).1; simp at h; omega), by rw [List.map_append, List.map_append, hll]; rfl⟩, hb5⟩, Below.trans hB (Below.trans (Below.mono HX1.out (Below.size hB)) hb3)⟩
    ·skip
     refine step_in_round (by intro c h; cases h) ?_
     go_simp
     refine hK _ _ ?_
     clear hK K
     try simp only [Act.put, sT, s0, s1]
     refine wpAnyIn_ready (rs := [0]) (by kernel_rfl) (by simp) ?_
     refine AllReadyIn.cons (o := ⟨some 12, .load 62 (.tmp 4), 62, "chunk.go:22", #[], none⟩) rfl (fun K hK => ?_) (AllReadyIn.nil)
     refine step_in_round (by intro c h; cases h) ?_
     go_simp
     refine hK _ _ ?_
     clear hK K
     try simp only [Act.put, sT, s0, s1]
     refine wpAnyIn_ready (rs := [4]) (by kernel_rfl) (by simp) ?_
     refine AllReadyIn.cons (o := ⟨some 16, .call { callee := .builtin Go.Builtin.append, args := #[.tmp 12, .tmp 15], argTypes := #[62, 62] }, 62, "chunk.go:22", #[⟨0, .data⟩, ⟨3, .data⟩, ⟨2, .chain⟩], none⟩) rfl (fun K hK => ?_) (AllReadyIn.nil)
     refine step_in_round (by intro c h; cases h) ?_
     have hrow1 := ownsRow_ext hrow HX1.out
     refine step_append_lies _ rfl _ _ 62 rfl w.heap.size 45 i0 (.slice none 0 0) 1 24 Tryz.underlying62 hi hz0 hz1 hz2 rfl (by decide) v L.length (L.map Lst.val) rfl (hrow1.alloc _) ⟨w1.heap.size, 0, none⟩ 1 1 [.slice A' N' c'] rfl rfl (cell_one_new _ _ _) (by simp [Value.oneCell']) (by omega) (by unfold maxLen; omega) (by omega) (by have := HX1.out.size; have := Below.size hB; simp; omega) _ rfl ?_
     intro g2 cap2 w2 hown2 hgrow2 hlies2 _
     have hv1 : Boxed w1 w.heap.size 62 v := boxed_ext hv HX1.out
     obtain ⟨hv2, hv3, hr3, hk3, hb3⟩ := hv1.appended (by decide) hrow1 (Nat.le_trans (Below.size hB) HX1.out.size) (Nat.le_refl _) hown2 hgrow2
     have hcb := hv2.cell
     have hfb := hv2.frozen
     refine hK _ _ ?_
     clear hK K
     try simp only [Act.put, sT, s0, s1]
     refine wpAnyIn_ready (rs := [5]) (by kernel_rfl) (by simp) ?_
     refine AllReadyIn.cons (o := ⟨none, .store 62 (.tmp 4) (.tmp 16), 0, "chunk.go:22", #[⟨4, .data⟩, ⟨4, .chain⟩, ⟨0, .phase⟩, ⟨1, .phase⟩, ⟨2, .phase⟩, ⟨3, .phase⟩, ⟨4, .phase⟩], none⟩) rfl (fun K hK => ?_) (AllReadyIn.nil)
     refine step_in_round (by intro c h; cases h) ?_
     go_simp
     refine hK _ _ ?_
     clear hK K
     try simp only [Act.put, sT, s0, s1]
     refine wpAnyIn_done (by kernel_rfl) ?_ _
     gi_wp2
     have hb4 := boxed_ext hbl HX1.out
     have hb5 : Boxed (w2.setCell ⟨w.heap.size, 0, none⟩ (.slice (some ⟨g2, 0, none⟩) (L.length + 1) cap2)) (w.heap.size + 1) 45 (.slice A n c) := ((hb4.alloc _).kept hgrow2 (fun e => hne e.symm)).other (by omega) _
     refine ⟨(KeepsOthers.trans (KeepsOthers.of_grownBy (grown_of_ext HX1.out) (fun j o e => by cases e)) hk3).from _, mod_twoZ (Below.trans (Below.mono HX1.out (Below.size hB)) hb3) (hb5.trans hbl.symm), ⟨⟨_, L ++ [⟨A', N', c', chunkL bs x.1⟩], hv3, by rw [List.length_append, List.map_append]; exact hr3, hok.more ((Array.getElem?_eq_some_iff.1 hv).1) (fun k hk => (hrow.lt k hk).2) HX1.out HBY.out (fun p hp => by have := HFR.out p hp; exact this) hgrow2 hlies2 _, (fun e => by
      injection e with e
      have e2 : g2 = w.heap.size + 1 := e
      rcases hlies2 with h | h
      ·rw [e2] at h; exact hne h
      ·have := (Array.getElem?_eq_some_iff.1 hb4).1; simp at h; omega), by rw [List.map_append, List.map_append, hll]; rfl⟩, hb5⟩, Below.trans hB (Below.trans (Below.mono HX1.out (Below.size hB)) hb3)⟩
 case done =>
  rintro D ys W hD hys ⟨⟨⟨v, L, hv, hrow, hok, _, hll⟩, _⟩, hB⟩ hK
  have hc := hv.cell
  have hll2 : L.map (fun a => a.l) = splitL bs := by
   rw [hll]
   unfold splitL
   rw [hln, ← hys, List.map_map]
   rfl
  have HRW := Lib.hid (And.intro hrow (And.intro hok hll2))
  have HBB := Lib.hid hB
  clear hrow hys hB hv hok hll hll2
  go_wp2_with fail
  refine retM1 rfl hK (v := .tuple #[v, .int .i64 0]) ?_ ?_
  ·simp [results, Tryz.results74, go_sem]
  ·exact ⟨v, L, rfl, ownsRow_putObj HRW.out.1 _ hK rfl, HRW.out.2.1.grown (grownBy_putObj' W D _) (fun r e => by cases e; exact ⟨_, hK, rfl⟩), HRW.out.2.2, HBB.out.trans (belowK_b (w := w) (Nat.le_refl _) W D _ _ (Nat.le_trans HE.out.size hD) hK rfl rfl)⟩
 case stop =>
  rintro D c pre W _ _ h _
  exact h.elim
end
section
open Go Go.RowKit Go.Maps
def RV : Value → Option (DataW Value × List MemPlace) := fun v => some (.held v, [])
def updZ (f : Int → Option Lst) (k : Int) (o : Option Lst) : Int → Option Lst := fun j => if j = k then o else f j
theorem lawZ : Keyed Tryz.prog 3 := int_keyed Tryz.underlying3
theorem keyZ_is (k : Int) (_ : (Lit.int .i64 k).wf = true) : WideAt.IsKeyLit (.int .i64 k) := by
 first | trivial | (simp [WideAt.IsKeyLit])
structure MapZ (w : World) (bm nb : Nat) (f : Int → Option Lst) : Prop where
 own : ∃ D : DataW Value, w.ownsMap Tryz.prog 3 RV bm nb D ∧ ∀ k : Int, (Lit.int .i64 k).wf = true → Maps.has D (.int .i64 k) = (f k).isSome ∧ ∀ a, f k = some a → ∀ z, D.atKey (.int .i64 k) z = .held a.val
theorem MapZ.new (w : World) : MapZ (w.alloc (.map #[] 0)) w.heap.size 0 fun _ => none :=
 ⟨_, World.ownsMap_made w Tryz.prog 3 RV, fun k _ => ⟨rfl, fun a h => by cases h⟩⟩
theorem MapZ.lt {w : World} {bm nb : Nat} {f : Int → Option Lst} (h : MapZ w bm nb f) : bm < w.heap.size := by
 obtain ⟨D, ho, _⟩ := h.own
 exact ho.lt
theorem MapZ.mod {w w' : World} {bm nb : Nat} {f : Int → Option Lst} {F : Nat → Prop} (h : MapZ w bm nb f) (hm : Mod F w w') (hF : ¬ F bm) : MapZ w' bm nb f := by
 obtain ⟨D, ⟨es, clock, hb, r⟩, hd⟩ := h.own
 exact ⟨D, ⟨es, clock, heap_mod hb hm hF, r⟩, hd⟩
theorem MapZ.ext {w w' : World} {bm nb : Nat} {f : Int → Option Lst} (h : MapZ w bm nb f) (hx : Ext w w') : MapZ w' bm nb f := h.mod (F := fun _ => False) (Mod.of_ext hx) fun hf => hf
theorem lit_ne {j k : Int} (h : j ≠ k) : (Lit.int .i64 j) ≠ (Lit.int .i64 k) := fun e => h (by injection e)
theorem MapZ.store {w : World} {bm nb : Nat} {f : Int → Option Lst} (h : MapZ w bm nb f) {k : Int} (hk : (Lit.int .i64 k).wf = true) (hn : nb < maxLen) (a : Lst) :
 ∃ w', (Instr.mapUpdate 284 (.map (some bm)) (.int .i64 k) (.slice a.A a.n a.c)).run Tryz.prog w = .ok () w' ∧ MapZ w' bm (nb + 1) (updZ f k (some a)) ∧ w.mapTurned w' bm := by
 obtain ⟨D, ho, hd⟩ := h.own
 obtain ⟨w', hrun, ho2, ht⟩ := ho.store lawZ Tryz.underlying284 hn (keyOf_int_mk Tryz.underlying3 hk) (val := .slice a.A a.n a.c) (d := .held (.slice a.A a.n a.c)) (ps := []) rfl
 have hM := ho.isMap
 refine ⟨w', hrun, ⟨_, ho2, fun j hj => ?_⟩, ht⟩
 by_cases hjk : j = k
 ·subst hjk
  unfold updZ
  rw [if_pos rfl]
  refine ⟨has_put_same hM (keyZ_is j hj) _, fun b hb z => ?_⟩
  injection hb with hb
  subst hb
  exact atKey_put_same hM (keyZ_is j hj) _ _
 ·unfold updZ
  rw [if_neg hjk]
  refine ⟨(has_put_other (lit_ne hjk) _).trans (hd j hj).1, fun b hb z => ?_⟩
  rw [atKey_put_other (lit_ne hjk)]
  exact (hd j hj).2 b hb z
theorem turned_mod {w w' : World} {b : Nat} (h : w.mapTurned w' b) : Mod (fun k => k = b) w w' := by
 have hg := h.grown
 exact ⟨hg.os, hg.tape, hg.output, hg.size, fun k hk hf => hg.block k hk (fun e => hf (by injection e))⟩
end
section
open Go Go.RowKit Go.Maps
structure ZH (w : World) (h count bm nb : Nat) (f : Int → Option Lst) : Prop where
 row : w.heap[h]? = some (.cells #[.pointer (some ⟨h, 0, none⟩), .int .i64 (count : Int), .map (some bm)] 286 (0, 0))
 map : MapZ w bm nb f
 rng : ∀ k, (f k).isSome = true → 0 ≤ k ∧ k < (count : Int)
 each : ∀ k a, f k = some a → By w a.A a.n a.c a.l ∧ a.n ≤ 80 ∧ ∀ p, a.A = some p → p.block ≠ bm
 cnt : 1 ≤ count ∧ count ≤ 8
section
variable {w w' : World} {h count bm nb : Nat} {f : Int → Option Lst}
theorem ZH.lt (z : ZH w h count bm nb f) : h < w.heap.size := (Array.getElem?_eq_some_iff.1 z.row).1
theorem ZH.ne (z : ZH w h count bm nb f) : h ≠ bm := fun e => by
 obtain ⟨D, ⟨es, clock, hb, _⟩, _⟩ := z.map.own
 have := z.row
 rw [e, hb] at this
 cases this
theorem ZH.ext (z : ZH w h count bm nb f) (hx : Ext w w') : ZH w' h count bm nb f :=
 ⟨(hx.block _ z.lt).trans z.row, z.map.ext hx, z.rng, fun k a ha => ⟨(z.each k a ha).1.ext hx, (z.each k a ha).2⟩, z.cnt⟩
theorem ZH.cells (z : ZH w h count bm nb f) : w.cell? ⟨h, 0, none⟩ = some (.pointer (some ⟨h, 0, none⟩)) ∧ w.cell? ⟨h, 1, none⟩ = some (.int .i64 (count : Int)) ∧ w.cell? ⟨h, 2, none⟩ = some (.map (some bm)) :=
 ⟨cell_of_row w h 0 _ _ _ z.row, cell_of_row w h 1 _ _ _ z.row, cell_of_row w h 2 _ _ _ z.row⟩
end
theorem eqlH_self (a : Addr) (w : World) : (binOp .eql 238 (.pointer (some a)) (.pointer (some a))).run Tryz.prog w = .ok (.bool true) w := by
 have hi : (Tryz.prog.info? 286).isSome = true := by kernel_rfl
 obtain ⟨j, hj⟩ := Option.isSome_iff_exists.1 hi
 exact run_eql_ptr_same w a Tryz.underlying238 hj
theorem eqlH_nil_some (a : Addr) (w : World) : (binOp .eql 238 (.pointer none) (.pointer (some a))).run Tryz.prog w = .ok (.bool false) w := by
 have h : ∀ d : Nat, (Op.equalIn (d + 1) 238 (.pointer none) (.pointer (some a))).run Tryz.prog w = .ok false w := fun d => by
  simp [Op.equalIn, run_underlying Tryz.underlying238]
 simp only [binOp]
 simp [Op.equal, Op.maxDepth, h 9999]
set_option maxHeartbeats 400000 in
theorem zmade_yes (g : Nat) (w : World) (h : w.cell? ⟨g, 0, none⟩ = some (.pointer (some ⟨g, 0, none⟩))) :
 Calls Tryz.prog 218 #[.pointer (some ⟨g, 0, none⟩)] w fun e w' => e = .returned (.bool true) ∧ w = w' := by
 have he := eqlH_self
 go_enter Tryz.func218, Tryz.ntmps218
 go_wp2
 go_ret
 exact ⟨rfl, rfl⟩
def UnmadeZ (w : World) (p : Option Addr) : Prop := p = none ∨ ∃ d, p = some ⟨d, 0, none⟩ ∧ w.cell? ⟨d, 0, none⟩ = some (.pointer none)
set_option maxHeartbeats 400000 in
theorem zmade_no (p : Option Addr) (w : World) (h : UnmadeZ w p) :
 Calls Tryz.prog 218 #[.pointer p] w fun e w' => e = .returned (.bool false) ∧ w = w' := by
 rcases h with rfl | ⟨d, rfl, h⟩
 ·go_enter Tryz.func218, Tryz.ntmps218
  go_wp2
  go_ret
  exact ⟨rfl, rfl⟩
 ·have he := eqlH_nil_some
  go_enter Tryz.func218, Tryz.ntmps218
  go_wp2
  go_ret
  exact ⟨rfl, rfl⟩
set_option maxHeartbeats 600000 in
theorem znew_no (count : Int) (hc : inZ 1 count 8 = false) (w : World) :
 Calls Tryz.prog 172 #[.int .i64 count] w fun e w' => e = .returned (.tuple #[.pointer none, .int .i64 2]) ∧ w = w' := by
 have HC := Lib.hid hc
 clear hc
 go_enter Tryz.func172, Tryz.ntmps172
 go_wp2_with fail
 refine (zcount_of _ _).mono ?_
 rw [HC.out]
 rintro e w1 ⟨rfl, rfl⟩
 go_wp2_with fail
 refine bodyPost_ret (v := .tuple #[.pointer none, .int .i64 2]) (by simp [results, Tryz.results172, go_sem]) rfl ⟨rfl, rfl⟩
set_option maxHeartbeats 600000 in
theorem znew_yes (count : Nat) (hc : 1 ≤ count ∧ count ≤ 8) (w : World) :
 Calls Tryz.prog 172 #[.int .i64 (count : Int)] w fun e w' => ∃ h bm, e = .returned (.tuple #[.pointer (some ⟨h, 0, none⟩), .int .i64 0]) ∧ ZH w' h count bm 0 (fun _ => none) ∧ Ext w w' ∧ w.heap.size ≤ h ∧ w.heap.size ≤ bm := by
 have hin : inZ 1 (count : Int) 8 = true := inZ_iff.2 (by omega)
 have HIN := Lib.hid hin
 have HC := Lib.hid hc
 have hmm := @run_makeMap Tryz.prog
 clear hin hc
 go_enter Tryz.func172, Tryz.ntmps172
 go_wp2_with fail
 refine (zcount_of _ _).mono ?_
 rw [HIN.out]
 rintro e w1 ⟨rfl, rfl⟩
 go_wp2_with fail
 refine bodyPost_ret (v := .tuple #[.pointer (some ⟨w.heap.size + 1, 0, none⟩), .int .i64 0]) (by simp [results, Tryz.results172, go_sem]) rfl ?_
 have hx : Ext w ((w.alloc (.map #[] 0)).alloc (.cells #[.pointer (some ⟨w.heap.size + 1, 0, none⟩), .int .i64 (count : Int), .map (some w.heap.size)] 286)) := ((Ext.refl w).alloc _).alloc _
 refine ⟨w.heap.size + 1, w.heap.size, rfl, ⟨?_, (MapZ.new w).ext ((Ext.refl _).alloc _), (fun k hk => by cases hk), (fun k a ha => by cases ha), HC.out⟩, hx, by omega, by omega⟩
 have h1 := heap_alloc_new (w.alloc (.map #[] 0)) (.cells #[.pointer (some ⟨w.heap.size + 1, 0, none⟩), .int .i64 (count : Int), .map (some w.heap.size)] 286)
 rw [World.size_alloc] at h1
 exact h1
end
section
open Go Go.RowKit Go.Shelf
attribute [local go_sem] Oper.semAt_some
end
section
open Go Go.RowKit Go.Shelf
attribute [local go_sem] Oper.semAt_some
end
end Go.Proofs.YtmpaocpgoihliaaGreatDoor

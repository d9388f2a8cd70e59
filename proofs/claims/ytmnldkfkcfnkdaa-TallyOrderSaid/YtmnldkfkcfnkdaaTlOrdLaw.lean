/-
  In which order, and how often, replicas are noted changes nothing: the law's walk.
-/
import Derived.Test.YtmnldkfkcfnkdaaTlMoreLaw
import Derived.Deep.DeepCutAuto
import Derived.Deep.RegionHeld
namespace Go.Proofs.Ytmnldkfkcfnkdaa
open Go Go.RowKit Go.Maps

theorem pair_infoT : (Try.prog.info? 48).map (fun i => (i.zero, i.size, i.bytes)) = some (some (.agg #[.int .i64 0, .int .i64 0]), 2, 16) := by kernel_rfl
theorem PairT.one (a : PairT) : ∀ u ∈ PairT.cells a, u.oneCell' = true := by
  intro u hu
  simp only [PairT.cells, List.mem_cons, List.not_mem_nil, or_false] at hu
  rcases hu with rfl | rfl <;> rfl
/-- The pairs told twice: one further on, and one of its own place. -/
def twT (l : List PairT) (p n i : Nat) : List PairT := (List.range i).flatMap fun j => [l.getD ((p + j) % n) ⟨0, 0⟩, l.getD j ⟨0, 0⟩]
theorem twT_succ (l : List PairT) (p n i : Nat) : twT l p n (i + 1) = twT l p n i ++ [l.getD ((p + i) % n) ⟨0, 0⟩, l.getD i ⟨0, 0⟩] := by
  unfold twT
  rw [List.range_succ, List.flatMap_append]
  rfl
theorem twT_len (l : List PairT) (p n : Nat) : ∀ i, (twT l p n i).length = 2 * i
  | 0 => rfl
  | i + 1 => by rw [twT_succ, List.length_append, twT_len l p n i]; rfl
theorem twT_mem {l : List PairT} {p n : Nat} (hn : l.length = n) (h0 : 0 < n) (x : PairT) : x ∈ l ↔ x ∈ twT l p n n := by
  have hget : ∀ j, j < n → l.getD j ⟨0, 0⟩ ∈ l := fun j hj => by
    rw [List.getD_eq_getElem?_getD, List.getElem?_eq_getElem (by omega), Option.getD_some]
    exact List.getElem_mem _
  unfold twT
  rw [List.mem_flatMap]
  constructor
  · intro hx
    obtain ⟨j, hj⟩ := List.getElem?_of_mem hx
    have hjl := (List.getElem?_eq_some_iff.1 hj).1
    refine ⟨j, List.mem_range.2 (by omega), ?_⟩
    rw [List.getD_eq_getElem?_getD (l := l) (i := j), hj]
    simp
  · rintro ⟨j, hj, hx⟩
    have hj := List.mem_range.1 hj
    simp only [List.mem_cons, List.not_mem_nil, or_false] at hx
    rcases hx with rfl | rfl
    · exact hget _ (Nat.mod_lt _ h0)
    · exact hget _ hj
theorem wrap_modU (z : Int) (N : Nat) (h0 : 0 < N) (hN : N ≤ 1000) : ∃ q : Nat, q < N ∧ wrap64 ((IntKind.u64.wrap z).tmod (N : Int)) = (q : Int) := by
  have h1 : 0 ≤ IntKind.u64.wrap z := by rw [IntKind.wrap_u64]; omega
  have h2 := Int.emod_nonneg (IntKind.u64.wrap z) (show (N : Int) ≠ 0 by omega)
  have h3 := Int.emod_lt_of_pos (IntKind.u64.wrap z) (show (0 : Int) < N by omega)
  refine ⟨((IntKind.u64.wrap z) % N).toNat, by omega, ?_⟩
  rw [Int.tmod_eq_emod_of_nonneg h1, IntWalk.wrap64_in _ (by omega)]
  omega
abbrev S2T (w : World) (g a : Nat) (x y : Int) (b : Nat) (x1 y1 : Int) : Prop := w.cell? ⟨g, a, none⟩ = some (.int .i64 x) ∧ w.cell? ⟨g, a + 1, none⟩ = some (.int .i64 y) ∧ w.cell? ⟨g, b, none⟩ = some (.int .i64 x1) ∧ w.cell? ⟨g, b + 1, none⟩ = some (.int .i64 y1)
theorem same_runs {n : Int} {L M : List (Int × Nat)} (h : ∀ j, lookT L j = lookT M j) (i : Int) : cntT n L i = cntT n M i ∧ uptoT n L i = uptoT n M i := by
  have he : enT n L = enT n M := funext fun j => by unfold enT; rw [h j]
  unfold cntT uptoT
  rw [h i, he]
  exact ⟨rfl, rfl⟩
set_option maxRecDepth 100000 in
set_option maxHeartbeats 3200000 in
theorem tallyOrder_law (n : Int) (A : Option Addr) (m c : Nat) (l : List PairT) (f : Int) (w : World) (_ : (Lit.int .i64 n).wf = true) (hl : Ls PairT.cells 2 w w.heap.size A m c l ∧ ∀ p ∈ l, (Lit.int .i64 p.i).wf = true ∧ (Lit.int .i64 p.r).wf = true) (_ : (Lit.int .i64 f).wf = true) :
    Calls Try.prog 6 #[.int .i64 n, .slice A m c, .int .i64 f] w fun e w' => e = .returned (.bool true) ∧ Below w.heap.size w w' := by
  show Calls Try.prog 6 #[.int .i64 n, .slice A m c, .int .i64 f] w fun e w' => e = .returned (.bool true) ∧ Ext w w'
  obtain ⟨i0, hi, hz0, hz1, hz2⟩ := info_parts pair_infoT
  obtain ⟨h, -⟩ := hl
  have hcap := h.cap
  have hmost := h.most
  have HLN := Lib.hid h.len
  have H := Lib.hid h
  clear h
  go_enter Try.func6, Try.ntmps6
  go_wp2_with fail
  refine (tawake_any _).mono ?_
  rintro e w1 ⟨rfl, hx⟩
  have HX := Lib.hid hx
  clear hx
  go_wp2_with fail
  refine (tof_of n _).mono ?_
  rintro e w2 ⟨⟨N, rfl, hN⟩, rfl⟩
  have HN := Lib.hid hN
  clear hN
  go_wp2_with fail
  refine (tnear_of (N : Int) (H.out.below HX.out)).mono ?_
  rintro e w2 ⟨⟨b, rfl, hb⟩, rfl⟩
  cases b with
  | false =>
    go_wp2_with fail
    go_ret
    exact ⟨rfl, HX.out⟩
  | true =>
  obtain ⟨hm, hnr⟩ := hb rfl
  have HNR := Lib.hid hnr
  clear hb hnr
  by_cases q0 : m = 0
  · have e0 : ((m : Int) == 0) = true := by simpa using q0
    go_wp2_with fail
    go_ret
    exact ⟨rfl, HX.out⟩
  have hm0 : 0 < m := by omega
  have e0 : ((m : Int) == 0) = false := by simp; omega
  obtain ⟨p, hp, hpe⟩ := wrap_modU f m hm0 (by omega)
  have HL3 := Lib.hid ((H.out.below HX.out).upT HX.out.size)
  go_upto_region 7 with (fail)
  rw [hpe]
  clear hpe
  obtain ⟨W, hW⟩ : ∃ W, W = w1 := ⟨_, rfl⟩
  subst hW
  obtain ⟨base, hbase⟩ : ∃ base, W.heap.size = base := ⟨_, rfl⟩
  have HBASE := Lib.hid hbase
  have HTW0 : Hid (W.ownsRow base 48 2 (.slice none 0 0) (2 * 0) ((twT l p m 0).flatMap PairT.cells)) := Lib.hid (World.ownsRow_nil _ _ _ _)
  clear hbase
  go_wp2_with fail
  go_loopw [7, 8] (fun t k wr => ∃ (i : Nat), i ≤ m ∧ k = .int .i64 (i : Int) ∧ Hid (wr.ownsRow base 48 2 t (2 * i) ((twT l p m i).flatMap PairT.cells)) ∧ Hid (Ext W wr)) (fun _ k _ => m - (intOf k).toNat)
  case atStart => exact ⟨0, Nat.zero_le _, rfl, HTW0, Lib.hid (Ext.refl _)⟩
  case round =>
    obtain ⟨i, hi', rfl, HTW, HX5⟩ := hrel
    by_cases hlt : i < m
    · obtain ⟨g, o, b, rfl, hg, hb, p0W, p1W⟩ := HL3.out.pair hlt
      obtain ⟨x, y⟩ := b
      dsimp only at p0W p1W
      have HBI := Lib.hid hb
      obtain ⟨r, hr⟩ : ∃ r, (p + i) % m = r := ⟨_, rfl⟩
      have hrn : r < m := by rw [← hr]; exact Nat.mod_lt _ hm0
      have HRR := Lib.hid hr
      clear hb hr
      obtain ⟨g', o', br, eA, hg', hbr, r0W, r1W⟩ := HL3.out.pair hrn
      injection eA with eA
      injection eA with eA1 eA2
      subst eA1 eA2
      obtain ⟨rx, ry⟩ := br
      dsimp only at r0W r1W
      have HBR := Lib.hid hbr
      have HSV : Hid (∀ V, Ext W V → S2T V g (o + r * 2) rx ry (o + i * 2) x y) := Lib.hid (fun V hV => ⟨ext_cellT hV r0W, ext_cellT hV r1W, ext_cellT hV p0W, ext_cellT hV p1W⟩)
      have hremI : (IntKind.i64.wrap ((p : Int) + (i : Int))).tmod (m : Int) = (r : Int) := by
        have hw : IntKind.i64.wrap ((p : Int) + (i : Int)) = (p : Int) + (i : Int) := by rw [IntKind.wrap_i64]; omega
        rw [hw, Int.tmod_eq_emod_of_nonneg (by omega), ← HRR.out]
        simp
      have hTn : twT l p m (i + 1) = twT l p m i ++ [⟨rx, ry⟩, ⟨x, y⟩] := by
        rw [twT_succ, HRR.out, List.getD_eq_getElem?_getD, HBR.out, List.getD_eq_getElem?_getD, HBI.out]
        rfl
      have HTN := Lib.hid hTn
      clear p0W p1W hbr r0W r1W hTn
      obtain ⟨w5, hw5⟩ : ∃ w5, w5 = wr := ⟨_, rfl⟩
      subst hw5
      have HTW5 := HTW
      go_upto_region 11 with (fail)
      refine wp_region_held_drew (S := fun w' => S2T w' g (o + r * 2) rx ry (o + i * 2) x y) (by kernel_rfl) (HSV.out _ HX5.out.drew) (fun hHeld => ?_)
      refine wpAnyH_take (i := 0) (oi := { dst := some 38, op := Go.Op.move (Go.Operand.tmp 7), type := 41, pos := "outright.go:99", after := #[], guard := none }) (v := ?_) rfl (by kernel_rfl) (by kernel_rfl) (by kernel_rfl) (fun _ _ _ h => h) (Or.inl ⟨by rfl, ?_⟩) (by assumption) ?_
      rotate_left
      · intro w9 hSw
        try dsimp only at hSw
        go_simp
        try with_reducible rfl
      try simp only [Act.put, List.setIfInBounds_toArray, List.set_cons_zero, List.set_cons_succ]
      refine wpAnyH_take (i := 1) (oi := { dst := some 39, op := Go.Op.move (Go.Operand.tmp 1), type := 41, pos := "outright.go:99", after := #[], guard := none }) (v := ?_) rfl (by kernel_rfl) (by kernel_rfl) (by kernel_rfl) (fun _ _ _ h => h) (Or.inl ⟨by rfl, ?_⟩) (by assumption) ?_
      rotate_left
      · intro w9 hSw
        try dsimp only at hSw
        go_simp
        try with_reducible rfl
      try simp only [Act.put, List.setIfInBounds_toArray, List.set_cons_zero, List.set_cons_succ]
      refine wpAnyH_take (i := 2) (oi := { dst := some 40, op := Go.Op.move (Go.Operand.tmp 2), type := 3, pos := "outright.go:99", after := #[], guard := none }) (v := ?_) rfl (by kernel_rfl) (by kernel_rfl) (by kernel_rfl) (fun _ _ _ h => h) (Or.inl ⟨by rfl, ?_⟩) (by assumption) ?_
      rotate_left
      · intro w9 hSw
        try dsimp only at hSw
        go_simp
        try with_reducible rfl
      try simp only [Act.put, List.setIfInBounds_toArray, List.set_cons_zero, List.set_cons_succ]
      refine wpAnyH_take (i := 3) (oi := { dst := some 41, op := Go.Op.move (Go.Operand.tmp 8), type := 3, pos := "outright.go:99", after := #[], guard := none }) (v := ?_) rfl (by kernel_rfl) (by kernel_rfl) (by kernel_rfl) (fun _ _ _ h => h) (Or.inl ⟨by rfl, ?_⟩) (by assumption) ?_
      rotate_left
      · intro w9 hSw
        try dsimp only at hSw
        go_simp
        try with_reducible rfl
      try simp only [Act.put, List.setIfInBounds_toArray, List.set_cons_zero, List.set_cons_succ]
      refine wpAnyH_take (i := 4) (oi := { dst := some 42, op := Go.Op.binOp Go.BinOp.add 3 (Go.Operand.tmp 40) (Go.Operand.tmp 41) 3, type := 3, pos := "outright.go:99", after := #[{ on := 2, ground := Go.Ground.data }, { on := 3, ground := Go.Ground.data }], guard := none }) (v := ?_) rfl (by kernel_rfl) (by kernel_rfl) (by kernel_rfl) (fun _ _ _ h => h) (Or.inl ⟨by rfl, ?_⟩) (by assumption) ?_
      rotate_left
      · intro w9 hSw
        try dsimp only at hSw
        go_simp
        try with_reducible rfl
      try simp only [Act.put, List.setIfInBounds_toArray, List.set_cons_zero, List.set_cons_succ]
      refine wpAnyH_take (i := 5) (oi := { dst := some 43, op := Go.Op.move (Go.Operand.tmp 1), type := 41, pos := "outright.go:99", after := #[], guard := none }) (v := ?_) rfl (by kernel_rfl) (by kernel_rfl) (by kernel_rfl) (fun _ _ _ h => h) (Or.inl ⟨by rfl, ?_⟩) (by assumption) ?_
      rotate_left
      · intro w9 hSw
        try dsimp only at hSw
        go_simp
        try with_reducible rfl
      try simp only [Act.put, List.setIfInBounds_toArray, List.set_cons_zero, List.set_cons_succ]
      refine wpAnyH_take (i := 6) (oi := { dst := some 44, op := Go.Op.call { callee := Go.Callee.builtin Go.Builtin.len, args := #[Go.Operand.tmp 43], argTypes := #[41] }, type := 3, pos := "outright.go:99", after := #[{ on := 5, ground := Go.Ground.data }], guard := none }) (v := ?_) rfl (by kernel_rfl) (by kernel_rfl) (by kernel_rfl) (fun _ _ _ h => h) (Or.inl ⟨by rfl, ?_⟩) (by assumption) ?_
      rotate_left
      · intro w9 hSw
        try dsimp only at hSw
        go_simp
        try with_reducible rfl
      try simp only [Act.put, List.setIfInBounds_toArray, List.set_cons_zero, List.set_cons_succ]
      refine wpAnyH_take (i := 7) (oi := { dst := some 45, op := Go.Op.binOp Go.BinOp.rem 3 (Go.Operand.tmp 42) (Go.Operand.tmp 44) 3, type := 3, pos := "outright.go:99", after := #[{ on := 4, ground := Go.Ground.data }, { on := 6, ground := Go.Ground.data }], guard := none }) (v := .int .i64 (r : Int)) rfl (by kernel_rfl) (by kernel_rfl) (by kernel_rfl) (fun _ _ _ h => h) (Or.inl ⟨by rfl, ?_⟩) (by assumption) ?_
      · intro w9 hSw
        try dsimp only at hSw
        go_simp
        try omega
      try simp only [Act.put, List.setIfInBounds_toArray, List.set_cons_zero, List.set_cons_succ]
      refine wpAnyH_take (i := 8) (oi := { dst := some 46, op := Go.Op.indexAddr 41 (Go.Operand.tmp 39) (Go.Operand.tmp 45), type := 0, pos := "outright.go:99", after := #[{ on := 1, ground := Go.Ground.data }, { on := 7, ground := Go.Ground.data }], guard := none }) (v := ?_) rfl (by kernel_rfl) (by kernel_rfl) (by kernel_rfl) (fun _ _ _ h => h) (Or.inl ⟨by rfl, ?_⟩) (by assumption) ?_
      rotate_left
      · intro w9 hSw
        try dsimp only at hSw
        go_simp
        try with_reducible rfl
      try simp only [Act.put, List.setIfInBounds_toArray, List.set_cons_zero, List.set_cons_succ]
      refine wpAnyH_take (i := 9) (oi := { dst := some 47, op := Go.Op.load 48 (Go.Operand.tmp 46), type := 48, pos := "outright.go:99", after := #[{ on := 8, ground := Go.Ground.data }], guard := none }) (v := ?_) rfl (by kernel_rfl) (by kernel_rfl) (by kernel_rfl) (fun _ _ _ h => h) (Or.inl ⟨by rfl, ?_⟩) (by assumption) ?_
      rotate_left
      · intro w9 hSw
        try dsimp only at hSw
        go_simp
        try with_reducible rfl
      try simp only [Act.put, List.setIfInBounds_toArray, List.set_cons_zero, List.set_cons_succ]
      refine wpAnyH_take (i := 10) (oi := { dst := some 48, op := Go.Op.move (Go.Operand.tmp 1), type := 41, pos := "outright.go:99", after := #[], guard := none }) (v := ?_) rfl (by kernel_rfl) (by kernel_rfl) (by kernel_rfl) (fun _ _ _ h => h) (Or.inl ⟨by rfl, ?_⟩) (by assumption) ?_
      rotate_left
      · intro w9 hSw
        try dsimp only at hSw
        go_simp
        try with_reducible rfl
      try simp only [Act.put, List.setIfInBounds_toArray, List.set_cons_zero, List.set_cons_succ]
      refine wpAnyH_take (i := 11) (oi := { dst := some 49, op := Go.Op.move (Go.Operand.tmp 8), type := 3, pos := "outright.go:99", after := #[], guard := none }) (v := ?_) rfl (by kernel_rfl) (by kernel_rfl) (by kernel_rfl) (fun _ _ _ h => h) (Or.inl ⟨by rfl, ?_⟩) (by assumption) ?_
      rotate_left
      · intro w9 hSw
        try dsimp only at hSw
        go_simp
        try with_reducible rfl
      try simp only [Act.put, List.setIfInBounds_toArray, List.set_cons_zero, List.set_cons_succ]
      refine wpAnyH_take (i := 12) (oi := { dst := some 50, op := Go.Op.indexAddr 41 (Go.Operand.tmp 48) (Go.Operand.tmp 49), type := 0, pos := "outright.go:99", after := #[{ on := 10, ground := Go.Ground.data }, { on := 11, ground := Go.Ground.data }], guard := none }) (v := ?_) rfl (by kernel_rfl) (by kernel_rfl) (by kernel_rfl) (fun _ _ _ h => h) (Or.inl ⟨by rfl, ?_⟩) (by assumption) ?_
      rotate_left
      · intro w9 hSw
        try dsimp only at hSw
        go_simp
        try with_reducible rfl
      try simp only [Act.put, List.setIfInBounds_toArray, List.set_cons_zero, List.set_cons_succ]
      refine wpAnyH_take (i := 13) (oi := { dst := some 51, op := Go.Op.load 48 (Go.Operand.tmp 50), type := 48, pos := "outright.go:99", after := #[{ on := 12, ground := Go.Ground.data }], guard := none }) (v := ?_) rfl (by kernel_rfl) (by kernel_rfl) (by kernel_rfl) (fun _ _ _ h => h) (Or.inl ⟨by rfl, ?_⟩) (by assumption) ?_
      rotate_left
      · intro w9 hSw
        try dsimp only at hSw
        go_simp
        try with_reducible rfl
      try simp only [Act.put, List.setIfInBounds_toArray, List.set_cons_zero, List.set_cons_succ]
      refine wpAnyH_ready (rs := [14]) (by kernel_rfl) (by simp) ?_
      refine AllReadyH.cons (o := { dst := some 52, op := Go.Op.buildSlice 41 2 #[(0, Go.Operand.tmp 47), (1, Go.Operand.tmp 51)], type := 41, pos := "outright.go:99", after := #[{ on := 9, ground := Go.Ground.data }, { on := 13, ground := Go.Ground.data }], guard := none }) rfl (fun K hK => ?_) AllReadyH.nil
      clear hHeld
      go_simp
      have HR6 := Lib.hid (heap_alloc_new w5.drew (.cells #[.int .i64 rx, .int .i64 ry, .int .i64 x, .int .i64 y] 48))
      have HX6 := Lib.hid (HX5.out.drew.alloc (.cells #[.int .i64 rx, .int .i64 ry, .int .i64 x, .int .i64 y] 48))
      have HT6 := Lib.hid (ownsRow_extL HTW5.out ((Ext.refl w5).drew.alloc (.cells #[.int .i64 rx, .int .i64 ry, .int .i64 x, .int .i64 y] 48)))
      refine hK.out _ _ (HSV.out _ HX6.out) (fun hHeld => ?_)
      clear hK K
      try simp only [Act.put, List.setIfInBounds_toArray, List.set_cons_zero, List.set_cons_succ]
      refine wpAnyH_ready (rs := [15]) (by kernel_rfl) (by simp) ?_
      refine AllReadyH.cons (o := { dst := some 53, op := Go.Op.call { callee := Go.Callee.builtin Go.Builtin.append, args := #[Go.Operand.tmp 38, Go.Operand.tmp 52], argTypes := #[41, 41] }, type := 41, pos := "outright.go:99", after := #[{ on := 0, ground := Go.Ground.data }, { on := 14, ground := Go.Ground.data }], guard := none }) rfl (fun K hK => ?_) AllReadyH.nil
      rw [if_pos (by rfl)]
      refine wp_append_ls (cells := PairT.cells) (N := 2) (fun _ => rfl) (by omega) PairT.one _ _ 41 rfl base 48 i0 (.agg #[.int .i64 0, .int .i64 0]) 16 Try.underlying41 hi hz0 hz1 hz2 rfl _ (2 * i) ((twT l p m i).flatMap PairT.cells) rfl HT6.out _ (some ⟨w5.drew.heap.size, 0, none⟩) 2 2 [⟨rx, ry⟩, ⟨x, y⟩] rfl (pairs_lit [⟨rx, ry⟩, ⟨x, y⟩] rfl (by simp) HR6.out) (by unfold maxLen; omega) (by omega) (by rw [← HBASE.out]; exact HX6.out.size) ?_
      intro v2 W2 ho2 hg2
      have hx2 : Ext W W2 := Below.grown HX6.out hg2 (Ext.size HX6.out) (fun q hq => by rw [HBASE.out]; exact (HT6.out.lt q hq).1)
      have HX7 := Lib.hid hx2
      have HT7 := Lib.hid ho2
      clear ho2 hg2 hx2
      refine hK.out _ _ (HSV.out _ HX7.out) (fun hHeld => ?_)
      clear hK K
      try simp only [Act.put, List.setIfInBounds_toArray, List.set_cons_zero, List.set_cons_succ]
      refine wpAnyH_take (i := 16) (oi := { dst := some 7, op := Go.Op.assign (Go.Operand.tmp 53), type := 41, pos := "outright.go:99", after := #[{ on := 15, ground := Go.Ground.data }, { on := 15, ground := Go.Ground.chain }, { on := 0, ground := Go.Ground.phase }, { on := 1, ground := Go.Ground.phase }, { on := 2, ground := Go.Ground.phase }, { on := 3, ground := Go.Ground.phase }, { on := 4, ground := Go.Ground.phase }, { on := 5, ground := Go.Ground.phase }, { on := 6, ground := Go.Ground.phase }, { on := 7, ground := Go.Ground.phase }, { on := 8, ground := Go.Ground.phase }, { on := 9, ground := Go.Ground.phase }, { on := 10, ground := Go.Ground.phase }, { on := 11, ground := Go.Ground.phase }, { on := 12, ground := Go.Ground.phase }, { on := 13, ground := Go.Ground.phase }, { on := 14, ground := Go.Ground.phase }, { on := 15, ground := Go.Ground.phase }], guard := none }) (v := ?_) rfl (by kernel_rfl) (by kernel_rfl) (by kernel_rfl) (fun _ _ _ h => h) (Or.inl ⟨by rfl, ?_⟩) (by assumption) ?_
      rotate_left
      · intro w9 hSw
        try dsimp only at hSw
        go_simp
        try with_reducible rfl
      try simp only [Act.put, List.setIfInBounds_toArray, List.set_cons_zero, List.set_cons_succ]
      refine wpAnyH_done (by kernel_rfl) ?_ _
      clear hHeld
      have HT8 : Hid (W2.ownsRow base 48 2 v2 (2 * (i + 1)) ((twT l p m (i + 1)).flatMap PairT.cells)) := Lib.hid (by
        rw [HTN.out, List.flatMap_append, show 2 * (i + 1) = 2 * i + 2 by omega]
        exact HT7.out)
      clear hremI
      go_wp2_with fail
      go_roundw
      case rel => exact ⟨i + 1, by omega, by go_num, HT8, HX7⟩
      case measure => simp [intOf]; omega
    · have hin : i = m := by omega
      subst hin
      obtain ⟨AT, cT, rfl, hlT⟩ := Ls.of_row (cells := PairT.cells) (N := 2) (n := 2 * i) (l := twT l p i i) (fun _ => rfl) (by omega) (twT_len l p i i) HTW.out
      have HLT := Lib.hid hlT
      have HX := Lib.hid (HX.out.trans HX5.out)
      have HMEM := Lib.hid (fun x => twT_mem (p := p) HLN.out hm0 x)
      have HSAME := Lib.hid (fun j => HNR.out.same (by have := HN.out; omega) HMEM.out j)
      have HNR2 : Hid (NearT (N : Int) (twT l p i i)) := Lib.hid (fun q hq => HNR.out q ((HMEM.out q).2 hq))
      have hcapT := hlT.cap
      have hmostT := hlT.most
      clear hlT
      go_wp2_with fail
      refine (tnoted_of HN.out ((H.out.below HX.out).upT HX.out.size) HNR.out).mono ?_
      rintro e w2 ⟨p1, b1, rfl, hz1, hx, hq1, hq2⟩
      have HZ1 := Lib.hid hz1
      have HX := Lib.hid (HX.out.trans hx)
      have HLT := Lib.hid ((HLT.out.below hx).upT hx.size)
      clear hz1 hx hq1 hq2
      go_wp2_with fail
      refine (tnoted_of HN.out HLT.out HNR2.out).mono ?_
      rintro e w3 ⟨p2, b2, rfl, hz2, hx, hq1, hq2⟩
      have HZ1 := Lib.hid (HZ1.out.ext hx)
      have HZ2 := Lib.hid hz2
      have HX := Lib.hid (HX.out.trans hx)
      clear hz2 hx hq1 hq2
      obtain ⟨L1, hL1⟩ : ∃ L1, foldT (N : Int) l = L1 := ⟨_, rfl⟩
      obtain ⟨L2, hL2⟩ : ∃ L2, foldT (N : Int) (twT l p i i) = L2 := ⟨_, rfl⟩
      rw [hL1] at HZ1
      rw [hL2] at HZ2
      rw [hL1, hL2] at HSAME
      clear hL1 hL2
      go_wp2_with fail
      go_loopw [11] (fun v wr => ∃ j : Nat, j ≤ 70 ∧ v = .int .i64 (j : Int) ∧ Hid (TQ wr p1 N b1 L1) ∧ Hid (TQ wr p2 N b2 L2) ∧ Hid (Ext w wr)) (fun v _ => 70 - (intOf v).toNat)
      case atStart => exact ⟨0, by omega, rfl, HZ1, HZ2, HX⟩
      case round =>
        obtain ⟨j, hj, rfl, HZ1, HZ2, HX⟩ := hrel
        by_cases hlt : j < 70
        · have hlt2 : (j : Int) < 70 := by omega
          have HWJ : Hid ((Lit.int .i64 (j : Int)).wf = true) := Lib.hid (WalkArith.wf_i64 (by omega))
          obtain ⟨hc, hu⟩ := same_runs (n := (N : Int)) HSAME.out (j : Int)
          have HCU := Lib.hid (And.intro hc hu)
          obtain ⟨cv, hcv⟩ : ∃ cv, cntT (N : Int) L1 (j : Int) = cv := ⟨_, rfl⟩
          obtain ⟨uv, huv⟩ : ∃ uv, uptoT (N : Int) L1 (j : Int) = uv := ⟨_, rfl⟩
          have HV := Lib.hid (And.intro hcv huv)
          clear hc hu hcv huv
          go_wp2_with fail
          refine (tcount_of HZ1.out (j : Int) HWJ.out).mono ?_
          rw [HV.out.1]
          rintro e w4 ⟨rfl, hx⟩
          have HZ1 := Lib.hid (HZ1.out.ext hx)
          have HZ2 := Lib.hid (HZ2.out.ext hx)
          have HX := Lib.hid (HX.out.trans hx)
          clear hx
          go_wp2_with fail
          refine (tcount_of HZ2.out (j : Int) HWJ.out).mono ?_
          rw [← HCU.out.1, HV.out.1]
          rintro e w5 ⟨rfl, hx⟩
          have HZ1 := Lib.hid (HZ1.out.ext hx)
          have HZ2 := Lib.hid (HZ2.out.ext hx)
          have HX := Lib.hid (HX.out.trans hx)
          clear hx
          go_wp2_with fail
          refine (tupto_of HZ1.out (j : Int) HWJ.out).mono ?_
          rw [HV.out.2]
          rintro e w6 ⟨rfl, hx⟩
          have HZ1 := Lib.hid (HZ1.out.ext hx)
          have HZ2 := Lib.hid (HZ2.out.ext hx)
          have HX := Lib.hid (HX.out.trans hx)
          clear hx
          go_wp2_with fail
          refine (tupto_of HZ2.out (j : Int) HWJ.out).mono ?_
          rw [← HCU.out.2, HV.out.2]
          rintro e w7 ⟨rfl, hx⟩
          have HZ1 := Lib.hid (HZ1.out.ext hx)
          have HZ2 := Lib.hid (HZ2.out.ext hx)
          have HX := Lib.hid (HX.out.trans hx)
          clear hx
          go_wp2_with fail
          go_roundw
          case rel => exact ⟨j + 1, by omega, by go_num, HZ1, HZ2, HX⟩
          case measure => simp [intOf]; omega
        · obtain rfl : j = 70 := by omega
          go_wp2_with fail
          go_ret
          exact ⟨rfl, HX.out⟩
end Go.Proofs.Ytmnldkfkcfnkdaa
